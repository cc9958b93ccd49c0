/-
  CONTRACT of spec.ServedStops; both sides.
-/
import Derived.Test.YtniankcjgcackaaServedI
namespace Go.Proofs.Ytniankcjgcackaa
open Go.RowKit Go.Maps Jrn
set_option linter.unusedVariables false
set_option linter.unusedSimpArgs false

/-- a box for a line, as it is made -/
def Z3 (w : World) (B : Nat) : Prop := w.cell? ⟨B, 0, none⟩ = some (.string ⟨#[]⟩) ∧ w.cell? ⟨B, 1, none⟩ = some (.slice none 0 0) ∧ w.cell? ⟨B, 2, none⟩ = some (.slice none 0 0) ∧ B < w.heap.size ∧ ∀ o, w.frozen? ⟨B, o, none⟩ = false
theorem Z3.later {w w' : World} {B : Nat} (h : Z3 w B) (hb : Below w.heap.size w w') : Z3 w' B := by
  obtain ⟨h0, h1, h2, hl, hf⟩ := h
  exact ⟨bkeep hb h0, bkeep hb h1, bkeep hb h2, Nat.lt_of_lt_of_le hl hb.size, fun o => (World.frozen?_of_block (a := ⟨B, o, none⟩) (hb.block B hl)).trans (hf o)⟩
theorem Z3.new (w : World) : Z3 (w.alloc (.cells #[.string ⟨#[]⟩, .slice none 0 0, .slice none 0 0] 104)) w.heap.size :=
  ⟨by go_simp, by go_simp, by go_simp, by simp, fun o => by unfold World.frozen?; rw [(MapKept.heap_alloc w _).1]; simp⟩
/-- the model's list behind the first k legs -/
def spL (t : TTD) (cs : List LegD) (f0 : Int) (k : Nat) : List Int := if k = 0 then [] else [f0] ++ svF t cs k
theorem spL_succ (t : TTD) (cs : List LegD) (f0 : Int) (k : Nat) : spL t cs f0 (k + 1) = [f0] ++ svF t cs (k + 1) := if_neg (by omega)

set_option maxRecDepth 100000 in
set_option maxHeartbeats 16000000 in
theorem specSV_any (v lv : Value) (t : TTD) (ch : Int) (cs : List LegD) (w : World) (hr : TTAt w v t) (hl : LegsAt w lv cs) (hf : TTFits t) (hs : TTSmall t) (hsl : LegsSmall cs) :
    Calls Try.prog 42 #[v, .int .i64 ch, lv] w fun e w' => StAns w.heap.size (svAns t ch cs) (ansJ t ch cs) e w' ∧ Below w.heap.size w w' := by
  have HA := Lib.hid (fun W (hW : Below w.heap.size w W) => l8Asked_any v t ch W (hr.below rfl hW) hf)
  have HJ := Lib.hid (fun (hg : TTGood t) (h0 : 0 ≤ ch) (h1 : ch ≤ 30) W (hW : Below w.heap.size w W) => l8Journey_any v lv t ch cs W (hr.below rfl hW) (hl.below rfl hW) hg hs hsl h0 h1)
  have HFi := Lib.hid (fun id W (hW : Below w.heap.size w W) => l5Find_any v t id W (hr.below rfl hW) hs)
  have HL := Lib.hid hl
  have HTT := Lib.hid hr
  obtain ⟨a, c, a', c', b, d, rfl, -, -⟩ := tt_open hr
  obtain ⟨la, lc, rfl⟩ := LegS_open hl
  clear hr hf hl hs
  obtain ⟨wa, hwa⟩ : ∃ wa : World, wa = (w.alloc (.cells #[.slice a t.net.stops.length c, .slice a' t.net.lines.length c', .slice b t.trips.length d] 38)).alloc (.cells #[] 3) := ⟨_, rfl⟩
  have p0 : wa.cell? ⟨w.heap.size, 0, none⟩ = some (.slice a t.net.stops.length c) := by rw [hwa]; go_simp
  have p1 : wa.cell? ⟨w.heap.size, 1, none⟩ = some (.slice a' t.net.lines.length c') := by rw [hwa]; go_simp
  have p2 : wa.cell? ⟨w.heap.size, 2, none⟩ = some (.slice b t.trips.length d) := by rw [hwa]; go_simp
  have hba : Below w.heap.size w wa := by rw [hwa]; exact ((Below.refl _ _).alloc (Nat.le_refl _) _).alloc (by simp) _
  have hO : wa.ownsRow (w.heap.size + 1) 3 1 (.slice (some ⟨w.heap.size + 1, 0, none⟩) 0 0) 0 (ints []) := by
    have h := row_new (w.alloc (.cells #[.slice a t.net.stops.length c, .slice a' t.net.lines.length c', .slice b t.trips.length d] 38)) (w.heap.size + 1) (by simp)
    simp only [World.size_alloc] at h
    rw [hwa]; exact h
  have hza : w.heap.size + 2 ≤ wa.heap.size := by rw [hwa]; simp
  have HWA := Lib.hid hwa
  have HO := Lib.hid hO
  clear hwa hO
  cases hans : ansJ t ch cs with
  | false =>
    have HN : Hid (svAns t ch cs = []) := by show _ = _; unfold svAns; rw [hans]; rfl
    rw [HN.out]
    by_cases h : TTGood t ∧ 0 ≤ ch ∧ ch ≤ 30
    · rw [askB_yes h] at HA
      have HJ1 := Lib.hid (HJ.out h.1 h.2.1 h.2.2)
      rw [← ansJ_yes h.1 h.2, hans] at HJ1
      clear h HJ hans
      go_enter Try.func42, Try.ntmps42
      go_wp2_with fail
      rw [← HWA.out]
      go_at_call 79
      refine (HA.out _ hba).mono ?_
      rintro e w1 ⟨rfl, hb⟩
      have HB1 : Hid (Below w.heap.size w w1) := hba.trans (hb.mono hba.size)
      have HO1 := Lib.hid (own_later HO.out hb)
      have z0 := bkeep hb p0
      have z1 := bkeep hb p1
      have z2 := bkeep hb p2
      have hz1 := hb.size
      clear hb hba p0 p1 p2 HO
      go_wp2_with fail
      go_at_call 80
      refine (HJ1.out _ HB1.out).mono ?_
      rintro e w2 ⟨rfl, hb⟩
      have HB2 : Hid (Below w.heap.size w w2) := HB1.out.trans (hb.mono HB1.out.size)
      have HO2 := Lib.hid (own_later HO1.out hb)
      have q0 := bkeep hb z0
      have q1 := bkeep hb z1
      have q2 := bkeep hb z2
      have hz2 := hb.size
      clear hb z0 z1 z2 HO1
      go_wp2_with fail
      go_ret2
      exact ⟨⟨_, rfl, own_base HO2.out (Nat.le_succ _)⟩, HB2.out⟩
    · rw [askB_no h] at HA
      clear h HJ hans
      go_enter Try.func42, Try.ntmps42
      go_wp2_with fail
      rw [← HWA.out]
      go_at_call 79
      refine (HA.out _ hba).mono ?_
      rintro e w1 ⟨rfl, hb⟩
      have HB1 : Hid (Below w.heap.size w w1) := hba.trans (hb.mono hba.size)
      have HO1 := Lib.hid (own_later HO.out hb)
      have z0 := bkeep hb p0
      have z1 := bkeep hb p1
      have z2 := bkeep hb p2
      have hz1 := hb.size
      clear hb hba p0 p1 p2 HO
      clear z0 z1 z2
      go_wp2_with fail
      go_ret2
      exact ⟨⟨_, rfl, own_base HO1.out (Nat.le_succ _)⟩, HB1.out⟩
  | true =>
    obtain ⟨hg, hch, hj⟩ := ansJ_iff hans
    rw [askB_yes ⟨hg, hch⟩] at HA
    have HJ1 := Lib.hid (HJ.out hg hch.1 hch.2)
    rw [jrnB_yes hj] at HJ1
    have HN : Hid (svAns t ch cs = [(firstL cs).frm] ++ svF t cs cs.length) := by show _ = _; unfold svAns; rw [hans]; rfl
    have hlen := hj.2.1
    have hlen1 := hj.1
    have HMem := Lib.hid (jrn_mem hj)
    have HG := Lib.hid hg
    have HLen := Lib.hid (svF_len hg (jrn_mem hj))
    have HE0 : Hid (∀ k (hk : k < cs.length), k = 0 → cs[k].frm = (firstL cs).frm) := by
      intro k hk hk0
      subst hk0
      unfold firstL
      rw [List.getD_eq_getElem?_getD, List.getElem?_eq_getElem (by omega)]; rfl
    clear hans HJ hg hch hj
    obtain ⟨f0, Hf0⟩ : ∃ f0, Hid ((firstL cs).frm = f0) := ⟨_, rfl⟩
    rw [Hf0.out] at HE0 HN
    have HN2 : Hid (svAns t ch cs = spL t cs f0 cs.length) := by show _ = _; rw [HN.out]; unfold spL; rw [if_neg (by omega)]
    rw [HN2.out]
    go_enter Try.func42, Try.ntmps42
    go_wp2_with fail
    rw [← HWA.out]
    go_at_call 79
    refine (HA.out _ hba).mono ?_
    rintro e w1 ⟨rfl, hb⟩
    have HB1 : Hid (Below w.heap.size w w1) := hba.trans (hb.mono hba.size)
    have HO1 := Lib.hid (own_later HO.out hb)
    have z0 := bkeep hb p0
    have z1 := bkeep hb p1
    have z2 := bkeep hb p2
    have hz1 := hb.size
    clear hb hba p0 p1 p2 HO
    go_wp2_with fail
    go_at_call 80
    refine (HJ1.out _ HB1.out).mono ?_
    rintro e w2 ⟨rfl, hb⟩
    have HB2 : Hid (Below w.heap.size w w2) := HB1.out.trans (hb.mono HB1.out.size)
    have HO2 := Lib.hid (own_later HO1.out hb)
    have q0 := bkeep hb z0
    have q1 := bkeep hb z1
    have q2 := bkeep hb z2
    have hz2 := hb.size
    clear hb z0 z1 z2 HO1
    have hz2 : w.heap.size < w2.heap.size := by omega
    go_wp2_with fail
    go_loopw [8, 9] (fun o q wr => ∃ k : Nat, k ≤ cs.length ∧ q = .int .i64 (k : Int) ∧ Hid (wr.ownsRow (w.heap.size + 1) 3 1 o (spL t cs f0 k).length (ints (spL t cs f0 k))) ∧ wr.cell? ⟨w.heap.size, 0, none⟩ = some (.slice a t.net.stops.length c) ∧ wr.cell? ⟨w.heap.size, 1, none⟩ = some (.slice a' t.net.lines.length c') ∧ wr.cell? ⟨w.heap.size, 2, none⟩ = some (.slice b t.trips.length d) ∧ Hid (Below w.heap.size w wr) ∧ Hid (w.heap.size < wr.heap.size)) (fun _ q _ => cs.length - (RowKit.intOf q).toNat)
    case atStart => exact ⟨0, by omega, by simp, HO2.out, q0, q1, q2, HB2.out, hz2⟩
    case round =>
      clear q0 q1 q2 HO2 HB2 hz2
      obtain ⟨wo, rfl⟩ : ∃ wo : World, wo = wr := ⟨_, rfl⟩
      obtain ⟨k, hk, rfl, HOwn, p0, p1, p2, HB, HZw⟩ := hrel
      obtain ⟨oa, oc, rfl⟩ := own_shape HOwn.out
      have hwo := HZw.out
      by_cases hlt : k < cs.length
      · obtain ⟨g, go, rfl, hgb, u0, u1, u2, -, -⟩ := leg_at HL.out k hlt
        have hk2 : (k : Int) < (cs.length : Int) := by omega
        have hFl := HLen.out k (by omega)
        have HSg : Hid (svF t cs (k + 1) = svF t cs k ++ segOf t cs[k]) := svF_succ hlt
        have hlm := HMem.out k hlt
        have HFr := Lib.hid (HE0.out k hlt)
        generalize cs[k] = l at *
        obtain ⟨i, hi, A, B, hpo, hfo, hAB, hBl, hfA, hfB, hAg, hseg, hdst⟩ := seg_at HG.out hlm
        obtain ⟨kl, hkl, hfa⟩ := ride_facts HG.out i hi
        have hrst : (rideOf t t.trips[i]).stops = t.net.lines[kl].stops := by rw [hfa.ride]
        have hl6 := hfa.len6
        rw [hrst] at hBl hfA hfB hAg hseg
        obtain ⟨s0, s1, r0, r1, ⟨hrs, hrr⟩, hL⟩ := l5Line_any _ t i w HTT.out hi kl hfa.line hkl
        have HLn := Lib.hid hL
        have HP1 := Lib.hid (fun W (hW : Below w.heap.size w W) => l2Place_any _ t.net.lines[kl] l.frm W (show LineV W (.agg #[.string t.net.lines[kl].name, .slice s0 t.net.lines[kl].stops.length s1, .slice r0 t.net.lines[kl].runs.length r1]) t.net.lines[kl] from ⟨_, _, rfl, hrs.below rfl hW, hrr.below rfl hW⟩))
        have HP2 := Lib.hid (fun W (hW : Below w.heap.size w W) => l2Place_any _ t.net.lines[kl] l.dst W (show LineV W (.agg #[.string t.net.lines[kl].name, .slice s0 t.net.lines[kl].stops.length s1, .slice r0 t.net.lines[kl].runs.length r1]) t.net.lines[kl] from ⟨_, _, rfl, hrs.below rfl hW, hrr.below rfl hW⟩))
        rw [hfA] at HP1
        rw [hfB] at HP2
        have HFd := Lib.hid (HFi.out l.trip)
        rw [(findI_found HG.out.Asc hfo).1, hpo] at HFd
        have HUs : Hid (∀ W, Below w.heap.size w W → W.cell? ⟨g, go + k * 5 + 1, none⟩ = some (.int .i64 l.frm) ∧ W.cell? ⟨g, go + k * 5 + 2, none⟩ = some (.int .i64 l.dst)) := fun W hW => ⟨bkeep hW u1, bkeep hW u2⟩
        have hS0 : wo.cell? ⟨w.heap.size, 0, none⟩ = some (.slice a t.net.stops.length c) ∧ wo.cell? ⟨w.heap.size, 1, none⟩ = some (.slice a' t.net.lines.length c') ∧ wo.cell? ⟨w.heap.size, 2, none⟩ = some (.slice b t.trips.length d) ∧ wo.cell? ⟨g, go + k * 5, none⟩ = some (.int .i64 l.trip) := ⟨p0, p1, p2, bkeep HB.out u0⟩
        clear hrst hfa hlm hrr hfB hfA hL hpo hfo hdst u0 u1 u2 p0 p1 p2
        obtain ⟨ln, Hln⟩ : ∃ ln, Hid (t.net.lines[kl]'hkl = ln) := ⟨t.net.lines[kl]'hkl, rfl⟩
        rw [Hln.out] at hBl hAg hseg hrs hl6 HLn HP1 HP2
        obtain ⟨sb, so, rfl, -, -⟩ := rowI_at hrs (by omega)
        have hcap : ln.stops.length ≤ s1 := by
          obtain ⟨a9, c9, hv9, hc9, -⟩ := hrs
          rw [ints_len] at hc9
          simp at hv9
          omega
        rw [hseg] at HSg
        clear hseg
        obtain ⟨fs, Hfs⟩ : ∃ fs, Hid (spL t cs f0 k = fs) := ⟨_, rfl⟩
        have HFl : Hid (fs.length ≤ 25) := by show _ ≤ _; rw [← Hfs.out]; unfold spL; split <;> simp <;> omega
        rw [Hfs.out] at HOwn
        rw [Hfs.out]
        obtain ⟨HO0, HB0⟩ := And.intro HOwn HB
        go_wp2_with fail
        refine wp_region_held_drew (S := (fun w' => w'.cell? ⟨w.heap.size, 0, none⟩ = some (.slice a t.net.stops.length c) ∧ w'.cell? ⟨w.heap.size, 1, none⟩ = some (.slice a' t.net.lines.length c') ∧ w'.cell? ⟨w.heap.size, 2, none⟩ = some (.slice b t.trips.length d) ∧ w'.cell? ⟨g, go + k * 5, none⟩ = some (.int .i64 l.trip))) (by kernel_rfl) ?_ (fun hHeld => ?_)
        · exact hS0
        refine wpAnyH_take (i := 0) (v := ?_) (by simp only [List.getElem?_toArray, List.getElem?_cons_zero]; rfl) (by kernel_rfl) (by kernel_rfl) (by kernel_rfl) (by exact fun _ _ _ h => h) (Or.inl ⟨by rfl, ?_⟩) (by assumption) ?_
        rotate_left
        · intro w' hSw; obtain ⟨e0, e1, e2, e3⟩ := hSw
          go_simp; try with_reducible rfl
        try simp only [Act.put, List.setIfInBounds_toArray, List.set_cons_zero, List.set_cons_succ]
        refine wpAnyH_take (i := 1) (v := ?_) (by simp only [List.getElem?_toArray, List.getElem?_cons_succ, List.getElem?_cons_zero]; rfl) (by kernel_rfl) (by kernel_rfl) (by kernel_rfl) (by exact fun _ _ _ h => h) (Or.inl ⟨by rfl, ?_⟩) (by assumption) ?_
        rotate_left
        · intro w' hSw; obtain ⟨e0, e1, e2, e3⟩ := hSw
          go_simp; try with_reducible rfl
        try simp only [Act.put, List.setIfInBounds_toArray, List.set_cons_zero, List.set_cons_succ]
        refine wpAnyH_take (i := 2) (v := ?_) (by simp only [List.getElem?_toArray, List.getElem?_cons_succ, List.getElem?_cons_zero]; rfl) (by kernel_rfl) (by kernel_rfl) (by kernel_rfl) (by exact fun _ _ _ h => h) (Or.inl ⟨by rfl, ?_⟩) (by assumption) ?_
        rotate_left
        · intro w' hSw; obtain ⟨e0, e1, e2, e3⟩ := hSw
          go_simp; try with_reducible rfl
        try simp only [Act.put, List.setIfInBounds_toArray, List.set_cons_zero, List.set_cons_succ]
        refine wpAnyH_take (i := 3) (v := ?_) (by simp only [List.getElem?_toArray, List.getElem?_cons_succ, List.getElem?_cons_zero]; rfl) (by kernel_rfl) (by kernel_rfl) (by kernel_rfl) (by exact fun _ _ _ h => h) (Or.inl ⟨by rfl, ?_⟩) (by assumption) ?_
        rotate_left
        · intro w' hSw; obtain ⟨e0, e1, e2, e3⟩ := hSw
          go_simp; try with_reducible rfl
        try simp only [Act.put, List.setIfInBounds_toArray, List.set_cons_zero, List.set_cons_succ]
        refine wpAnyH_take (i := 4) (v := ?_) (by simp only [List.getElem?_toArray, List.getElem?_cons_succ, List.getElem?_cons_zero]; rfl) (by kernel_rfl) (by kernel_rfl) (by kernel_rfl) (by exact fun _ _ _ h => h) (Or.inl ⟨by rfl, ?_⟩) (by assumption) ?_
        rotate_left
        · intro w' hSw; obtain ⟨e0, e1, e2, e3⟩ := hSw
          go_simp; try with_reducible rfl
        try simp only [Act.put, List.setIfInBounds_toArray, List.set_cons_zero, List.set_cons_succ]
        refine wpAnyH_take (i := 5) (v := ?_) (by simp only [List.getElem?_toArray, List.getElem?_cons_succ, List.getElem?_cons_zero]; rfl) (by kernel_rfl) (by kernel_rfl) (by kernel_rfl) (by exact fun _ _ _ h => h) (Or.inl ⟨by rfl, ?_⟩) (by assumption) ?_
        rotate_left
        · intro w' hSw; obtain ⟨e0, e1, e2, e3⟩ := hSw
          go_simp; try with_reducible rfl
        try simp only [Act.put, List.setIfInBounds_toArray, List.set_cons_zero, List.set_cons_succ]
        refine wpAnyH_take (i := 6) (v := ?_) (by simp only [List.getElem?_toArray, List.getElem?_cons_succ, List.getElem?_cons_zero]; rfl) (by kernel_rfl) (by kernel_rfl) (by kernel_rfl) (by exact fun _ _ _ h => h) (Or.inl ⟨by rfl, ?_⟩) (by assumption) ?_
        rotate_left
        · intro w' hSw; obtain ⟨e0, e1, e2, e3⟩ := hSw
          go_simp; try with_reducible rfl
        try simp only [Act.put, List.setIfInBounds_toArray, List.set_cons_zero, List.set_cons_succ]
        refine wpAnyH_ready (rs := [7, 9]) (by kernel_rfl) (by simp) ?_
        refine AllReadyH.cons (by simp only [List.getElem?_toArray, List.getElem?_cons_succ, List.getElem?_cons_zero]; rfl) (fun K hK => ?_) (AllReadyH.cons (by simp only [List.getElem?_toArray, List.getElem?_cons_succ, List.getElem?_cons_zero]; rfl) (fun K hK => ?_) AllReadyH.nil)
        · go_simp
          go_at_call 109
          refine (HFd.out _ (HB0.out.drew)).mono ?_
          rintro e wF ⟨rfl, hb⟩
          have rb : Below wo.heap.size wo wF := (Below.refl _ _).drew.trans hb
          have hSF : wF.cell? ⟨w.heap.size, 0, none⟩ = some (.slice a t.net.stops.length c) ∧ wF.cell? ⟨w.heap.size, 1, none⟩ = some (.slice a' t.net.lines.length c') ∧ wF.cell? ⟨w.heap.size, 2, none⟩ = some (.slice b t.trips.length d) ∧ wF.cell? ⟨g, go + k * 5, none⟩ = some (.int .i64 l.trip) := ⟨bkeep rb hS0.1, bkeep rb hS0.2.1, bkeep rb hS0.2.2.1, bkeep rb hS0.2.2.2⟩
          have HOF := Lib.hid (own_later HO0.out rb)
          have HBF : Hid (Below w.heap.size w wF) := HB0.out.trans (rb.mono HB0.out.size)
          have hzF : wo.heap.size ≤ wF.heap.size := rb.size

          clear hb rb
          go_wp2_with fail
          refine hK.out _ _ hSF (fun hH7 => ?_)
          clear hK K
          try simp only [Act.put, List.setIfInBounds_toArray, List.set_cons_zero, List.set_cons_succ]
          refine wpAnyH_ready (rs := [8, 9]) (by kernel_rfl) (by simp) ?_
          refine AllReadyH.cons (by simp only [List.getElem?_toArray, List.getElem?_cons_succ, List.getElem?_cons_zero]; rfl) (fun K hK => ?_) (AllReadyH.cons (by simp only [List.getElem?_toArray, List.getElem?_cons_succ, List.getElem?_cons_zero]; rfl) (fun K hK => ?_) AllReadyH.nil)
          · go_simp
            go_at_call 108
            refine (HLn.out _ (HBF.out)).mono ?_
            rintro e wL ⟨rfl, hb⟩
            have rb : Below wF.heap.size wF wL := hb
            have hSL : wL.cell? ⟨w.heap.size, 0, none⟩ = some (.slice a t.net.stops.length c) ∧ wL.cell? ⟨w.heap.size, 1, none⟩ = some (.slice a' t.net.lines.length c') ∧ wL.cell? ⟨w.heap.size, 2, none⟩ = some (.slice b t.trips.length d) ∧ wL.cell? ⟨g, go + k * 5, none⟩ = some (.int .i64 l.trip) := ⟨bkeep rb hSF.1, bkeep rb hSF.2.1, bkeep rb hSF.2.2.1, bkeep rb hSF.2.2.2⟩
            have HOL := Lib.hid (own_later HOF.out rb)
            have HBL : Hid (Below w.heap.size w wL) := HBF.out.trans (rb.mono HBF.out.size)
            have hzL : wo.heap.size ≤ wL.heap.size := Nat.le_trans hzF rb.size

            clear hb rb
            go_wp2_with fail
            refine hK.out _ _ hSL (fun hH8 => ?_)
            clear hK K
            try simp only [Act.put, List.setIfInBounds_toArray, List.set_cons_zero, List.set_cons_succ]
            refine wpAnyH_ready (rs := [9]) (by kernel_rfl) (by simp) ?_
            refine AllReadyH.cons (by simp only [List.getElem?_toArray, List.getElem?_cons_succ, List.getElem?_cons_zero]; rfl) (fun K hK => ?_) AllReadyH.nil
            go_simp
            obtain ⟨wA, hwA⟩ : ∃ wA : World, wA = World.alloc wL (.cells #[.string ⟨#[]⟩, .slice none 0 0, .slice none 0 0] 104) := ⟨_, rfl⟩
            have rb : Below wL.heap.size wL wA := by rw [hwA]; exact (Below.refl _ _).alloc (Nat.le_refl _) _
            have hSA : wA.cell? ⟨w.heap.size, 0, none⟩ = some (.slice a t.net.stops.length c) ∧ wA.cell? ⟨w.heap.size, 1, none⟩ = some (.slice a' t.net.lines.length c') ∧ wA.cell? ⟨w.heap.size, 2, none⟩ = some (.slice b t.trips.length d) ∧ wA.cell? ⟨g, go + k * 5, none⟩ = some (.int .i64 l.trip) := ⟨bkeep rb hSL.1, bkeep rb hSL.2.1, bkeep rb hSL.2.2.1, bkeep rb hSL.2.2.2⟩
            have HOA := Lib.hid (own_later HOL.out rb)
            have HBA : Hid (Below w.heap.size w wA) := HBL.out.trans (rb.mono HBL.out.size)
            have hzA : wo.heap.size ≤ wA.heap.size := Nat.le_trans hzL rb.size
            have HZA : Hid (Z3 wA wL.heap.size) := by rw [hwA]; exact Z3.new _
            rw [← hwA]
            clear rb hwA
            refine hK.out _ _ hSA (fun hH9 => ?_)
            clear hK K
            try simp only [Act.put, List.setIfInBounds_toArray, List.set_cons_zero, List.set_cons_succ]
            refine wpAnyH_ready (rs := [10]) (by kernel_rfl) (by simp) ?_
            refine AllReadyH.cons (by simp only [List.getElem?_toArray, List.getElem?_cons_succ, List.getElem?_cons_zero]; rfl) (fun K hK => ?_) AllReadyH.nil
            obtain ⟨zz0, zz1, zz2, zl, zf⟩ := HZA.out
            go_simp
            obtain ⟨wS, hwS⟩ : ∃ wS : World, wS = (((wA.setCell ⟨wL.heap.size, 0, none⟩ (.string ln.name)).setCell ⟨wL.heap.size, 1, none⟩ (.slice (some ⟨sb, so, none⟩) ln.stops.length s1)).setCell ⟨wL.heap.size, 2, none⟩ (.slice r0 ln.runs.length r1)) := ⟨_, rfl⟩
            have hgS : wA.grownBy wS (some wL.heap.size) := by rw [hwS]; exact gr_trans (gr_trans (gr_set _ _ _ _) (gr_set _ _ _ _)) (gr_set _ _ _ _)
            have hxw : w.heap.size < wL.heap.size := by have := hzL; omega
            have hxo : wo.heap.size ≤ wL.heap.size := by exact hzL
            have hgl : g < wo.heap.size := World.block_lt_of_cell? wo _ hS0.2.2.2
            have hSS : wS.cell? ⟨w.heap.size, 0, none⟩ = some (.slice a t.net.stops.length c) ∧ wS.cell? ⟨w.heap.size, 1, none⟩ = some (.slice a' t.net.lines.length c') ∧ wS.cell? ⟨w.heap.size, 2, none⟩ = some (.slice b t.trips.length d) ∧ wS.cell? ⟨g, go + k * 5, none⟩ = some (.int .i64 l.trip) := ⟨gr_cell hgS hSA.1 (by show w.heap.size ≠ _; omega), gr_cell hgS hSA.2.1 (by show w.heap.size ≠ _; omega), gr_cell hgS hSA.2.2.1 (by show w.heap.size ≠ _; omega), gr_cell hgS hSA.2.2.2 (by show g ≠ _; omega)⟩
            have HBS : Hid (Below w.heap.size w wS) := HBA.out.trans (below_gr hgS (by omega) HBA.out.size)
            have HOS : Hid (wS.ownsRow (w.heap.size + 1) 3 1 (.slice oa fs.length oc) fs.length (ints fs)) := gr_own hgS HOA.out (fun e => by have := (HOwn.out.lt _ e).2; omega)
            have hzS : w.heap.size < wS.heap.size := by have := hgS.size; have := HBA.out.size; omega
            have X0 : wS.cell? ⟨wL.heap.size, 0, none⟩ = some (.string ln.name) := by rw [hwS]; go_simp
            have X1 : wS.cell? ⟨wL.heap.size, 1, none⟩ = some (.slice (some ⟨sb, so, none⟩) ln.stops.length s1) := by rw [hwS]; go_simp
            have X2 : wS.cell? ⟨wL.heap.size, 2, none⟩ = some (.slice r0 ln.runs.length r1) := by rw [hwS]; go_simp
            rw [← hwS]
            refine hK.out _ _ hSS (fun hH10 => ?_)
            clear hgS hwS zz0 zz1 zz2 zl zf
            clear hK K
            try simp only [Act.put, List.setIfInBounds_toArray, List.set_cons_zero, List.set_cons_succ]
            refine wpAnyH_done (by kernel_rfl) ?_ _
            obtain ⟨b0, b1, b2, -⟩ := hSS
            have HU := HUs.out wS HBS.out
            have hTS : wS.drew.cell? ⟨wL.heap.size, 0, none⟩ = some (.string ln.name) ∧ wS.drew.cell? ⟨wL.heap.size, 1, none⟩ = some (.slice (some ⟨sb, so, none⟩) ln.stops.length s1) ∧ wS.drew.cell? ⟨wL.heap.size, 2, none⟩ = some (.slice r0 ln.runs.length r1) ∧ wS.drew.cell? ⟨g, go + k * 5 + 1, none⟩ = some (.int .i64 l.frm) ∧ wS.drew.cell? ⟨g, go + k * 5 + 2, none⟩ = some (.int .i64 l.dst) ∧ wS.drew.cell? ⟨w.heap.size, 0, none⟩ = some (.slice a t.net.stops.length c) ∧ wS.drew.cell? ⟨w.heap.size, 1, none⟩ = some (.slice a' t.net.lines.length c') ∧ wS.drew.cell? ⟨w.heap.size, 2, none⟩ = some (.slice b t.trips.length d) := ⟨X0, X1, X2, HU.1, HU.2, b0, b1, b2⟩
            clear X0 X1 X2 HU b0 b1 b2 hS0
            go_wp2_with fail
            refine wp_region_held_drew (S := (fun w' => w'.cell? ⟨wL.heap.size, 0, none⟩ = some (.string ln.name) ∧ w'.cell? ⟨wL.heap.size, 1, none⟩ = some (.slice (some ⟨sb, so, none⟩) ln.stops.length s1) ∧ w'.cell? ⟨wL.heap.size, 2, none⟩ = some (.slice r0 ln.runs.length r1) ∧ w'.cell? ⟨g, go + k * 5 + 1, none⟩ = some (.int .i64 l.frm) ∧ w'.cell? ⟨g, go + k * 5 + 2, none⟩ = some (.int .i64 l.dst) ∧ w'.cell? ⟨w.heap.size, 0, none⟩ = some (.slice a t.net.stops.length c) ∧ w'.cell? ⟨w.heap.size, 1, none⟩ = some (.slice a' t.net.lines.length c') ∧ w'.cell? ⟨w.heap.size, 2, none⟩ = some (.slice b t.trips.length d))) (by kernel_rfl) ?_ (fun hHeld => ?_)
            · exact hTS
            refine wpAnyH_take (i := 0) (v := ?_) (by simp only [List.getElem?_toArray, List.getElem?_cons_zero]; rfl) (by kernel_rfl) (by kernel_rfl) (by kernel_rfl) (by exact fun _ _ _ h => h) (Or.inl ⟨by rfl, ?_⟩) (by assumption) ?_
            rotate_left
            · intro w' hSw; obtain ⟨e0, e1, e2, e3, e4, e5, e6, e7⟩ := hSw
              go_simp; try with_reducible rfl
            try simp only [Act.put, List.setIfInBounds_toArray, List.set_cons_zero, List.set_cons_succ]
            refine wpAnyH_take (i := 1) (v := ?_) (by simp only [List.getElem?_toArray, List.getElem?_cons_succ, List.getElem?_cons_zero]; rfl) (by kernel_rfl) (by kernel_rfl) (by kernel_rfl) (by exact fun _ _ _ h => h) (Or.inl ⟨by rfl, ?_⟩) (by assumption) ?_
            rotate_left
            · intro w' hSw; obtain ⟨e0, e1, e2, e3, e4, e5, e6, e7⟩ := hSw
              go_simp; try with_reducible rfl
            try simp only [Act.put, List.setIfInBounds_toArray, List.set_cons_zero, List.set_cons_succ]
            refine wpAnyH_take (i := 2) (v := ?_) (by simp only [List.getElem?_toArray, List.getElem?_cons_succ, List.getElem?_cons_zero]; rfl) (by kernel_rfl) (by kernel_rfl) (by kernel_rfl) (by exact fun _ _ _ h => h) (Or.inl ⟨by rfl, ?_⟩) (by assumption) ?_
            rotate_left
            · intro w' hSw; obtain ⟨e0, e1, e2, e3, e4, e5, e6, e7⟩ := hSw
              go_simp; try with_reducible rfl
            try simp only [Act.put, List.setIfInBounds_toArray, List.set_cons_zero, List.set_cons_succ]
            refine wpAnyH_take (i := 3) (v := ?_) (by simp only [List.getElem?_toArray, List.getElem?_cons_succ, List.getElem?_cons_zero]; rfl) (by kernel_rfl) (by kernel_rfl) (by kernel_rfl) (by exact fun _ _ _ h => h) (Or.inl ⟨by rfl, ?_⟩) (by assumption) ?_
            rotate_left
            · intro w' hSw; obtain ⟨e0, e1, e2, e3, e4, e5, e6, e7⟩ := hSw
              go_simp; try with_reducible rfl
            try simp only [Act.put, List.setIfInBounds_toArray, List.set_cons_zero, List.set_cons_succ]
            refine wpAnyH_take (i := 4) (v := ?_) (by simp only [List.getElem?_toArray, List.getElem?_cons_succ, List.getElem?_cons_zero]; rfl) (by kernel_rfl) (by kernel_rfl) (by kernel_rfl) (by exact fun _ _ _ h => h) (Or.inl ⟨by rfl, ?_⟩) (by assumption) ?_
            rotate_left
            · intro w' hSw; obtain ⟨e0, e1, e2, e3, e4, e5, e6, e7⟩ := hSw
              go_simp; try with_reducible rfl
            try simp only [Act.put, List.setIfInBounds_toArray, List.set_cons_zero, List.set_cons_succ]
            refine wpAnyH_take (i := 5) (v := ?_) (by simp only [List.getElem?_toArray, List.getElem?_cons_succ, List.getElem?_cons_zero]; rfl) (by kernel_rfl) (by kernel_rfl) (by kernel_rfl) (by exact fun _ _ _ h => h) (Or.inl ⟨by rfl, ?_⟩) (by assumption) ?_
            rotate_left
            · intro w' hSw; obtain ⟨e0, e1, e2, e3, e4, e5, e6, e7⟩ := hSw
              go_simp; try with_reducible rfl
            try simp only [Act.put, List.setIfInBounds_toArray, List.set_cons_zero, List.set_cons_succ]
            refine wpAnyH_take (i := 7) (v := ?_) (by simp only [List.getElem?_toArray, List.getElem?_cons_succ, List.getElem?_cons_zero]; rfl) (by kernel_rfl) (by kernel_rfl) (by kernel_rfl) (by exact fun _ _ _ h => h) (Or.inl ⟨by rfl, ?_⟩) (by assumption) ?_
            rotate_left
            · intro w' hSw; obtain ⟨e0, e1, e2, e3, e4, e5, e6, e7⟩ := hSw
              go_simp; try with_reducible rfl
            try simp only [Act.put, List.setIfInBounds_toArray, List.set_cons_zero, List.set_cons_succ]
            refine wpAnyH_take (i := 8) (v := ?_) (by simp only [List.getElem?_toArray, List.getElem?_cons_succ, List.getElem?_cons_zero]; rfl) (by kernel_rfl) (by kernel_rfl) (by kernel_rfl) (by exact fun _ _ _ h => h) (Or.inl ⟨by rfl, ?_⟩) (by assumption) ?_
            rotate_left
            · intro w' hSw; obtain ⟨e0, e1, e2, e3, e4, e5, e6, e7⟩ := hSw
              go_simp; try with_reducible rfl
            try simp only [Act.put, List.setIfInBounds_toArray, List.set_cons_zero, List.set_cons_succ]
            refine wpAnyH_take (i := 9) (v := ?_) (by simp only [List.getElem?_toArray, List.getElem?_cons_succ, List.getElem?_cons_zero]; rfl) (by kernel_rfl) (by kernel_rfl) (by kernel_rfl) (by exact fun _ _ _ h => h) (Or.inl ⟨by rfl, ?_⟩) (by assumption) ?_
            rotate_left
            · intro w' hSw; obtain ⟨e0, e1, e2, e3, e4, e5, e6, e7⟩ := hSw
              go_simp; try with_reducible rfl
            try simp only [Act.put, List.setIfInBounds_toArray, List.set_cons_zero, List.set_cons_succ]
            refine wpAnyH_take (i := 10) (v := ?_) (by simp only [List.getElem?_toArray, List.getElem?_cons_succ, List.getElem?_cons_zero]; rfl) (by kernel_rfl) (by kernel_rfl) (by kernel_rfl) (by exact fun _ _ _ h => h) (Or.inl ⟨by rfl, ?_⟩) (by assumption) ?_
            rotate_left
            · intro w' hSw; obtain ⟨e0, e1, e2, e3, e4, e5, e6, e7⟩ := hSw
              go_simp; try with_reducible rfl
            try simp only [Act.put, List.setIfInBounds_toArray, List.set_cons_zero, List.set_cons_succ]
            refine wpAnyH_take (i := 11) (v := ?_) (by simp only [List.getElem?_toArray, List.getElem?_cons_succ, List.getElem?_cons_zero]; rfl) (by kernel_rfl) (by kernel_rfl) (by kernel_rfl) (by exact fun _ _ _ h => h) (Or.inl ⟨by rfl, ?_⟩) (by assumption) ?_
            rotate_left
            · intro w' hSw; obtain ⟨e0, e1, e2, e3, e4, e5, e6, e7⟩ := hSw
              go_simp; try with_reducible rfl
            try simp only [Act.put, List.setIfInBounds_toArray, List.set_cons_zero, List.set_cons_succ]
            refine wpAnyH_take (i := 12) (v := ?_) (by simp only [List.getElem?_toArray, List.getElem?_cons_succ, List.getElem?_cons_zero]; rfl) (by kernel_rfl) (by kernel_rfl) (by kernel_rfl) (by exact fun _ _ _ h => h) (Or.inl ⟨by rfl, ?_⟩) (by assumption) ?_
            rotate_left
            · intro w' hSw; obtain ⟨e0, e1, e2, e3, e4, e5, e6, e7⟩ := hSw
              go_simp; try with_reducible rfl
            try simp only [Act.put, List.setIfInBounds_toArray, List.set_cons_zero, List.set_cons_succ]
            refine wpAnyH_ready (rs := [6]) (by kernel_rfl) (by simp) ?_
            refine AllReadyH.cons (by simp only [List.getElem?_toArray, List.getElem?_cons_succ, List.getElem?_cons_zero]; rfl) (fun K hK => ?_) AllReadyH.nil
            go_simp
            go_at_call 110
            refine (HP1.out _ (HBS.out.drew)).mono ?_
            rintro e wP ⟨rfl, hb⟩
            have rb : Below wS.heap.size wS wP := (Below.refl _ _).drew.trans hb
            have hTP : wP.cell? ⟨wL.heap.size, 0, none⟩ = some (.string ln.name) ∧ wP.cell? ⟨wL.heap.size, 1, none⟩ = some (.slice (some ⟨sb, so, none⟩) ln.stops.length s1) ∧ wP.cell? ⟨wL.heap.size, 2, none⟩ = some (.slice r0 ln.runs.length r1) ∧ wP.cell? ⟨g, go + k * 5 + 1, none⟩ = some (.int .i64 l.frm) ∧ wP.cell? ⟨g, go + k * 5 + 2, none⟩ = some (.int .i64 l.dst) ∧ wP.cell? ⟨w.heap.size, 0, none⟩ = some (.slice a t.net.stops.length c) ∧ wP.cell? ⟨w.heap.size, 1, none⟩ = some (.slice a' t.net.lines.length c') ∧ wP.cell? ⟨w.heap.size, 2, none⟩ = some (.slice b t.trips.length d) := ⟨bkeep rb hTS.1, bkeep rb hTS.2.1, bkeep rb hTS.2.2.1, bkeep rb hTS.2.2.2.1, bkeep rb hTS.2.2.2.2.1, bkeep rb hTS.2.2.2.2.2.1, bkeep rb hTS.2.2.2.2.2.2.1, bkeep rb hTS.2.2.2.2.2.2.2⟩
            have HOP := Lib.hid (own_later HOS.out rb)
            have HBP : Hid (Below w.heap.size w wP) := HBS.out.trans (rb.mono HBS.out.size)
            have hzP : w.heap.size < wP.heap.size := by have := rb.size; have := hzS; omega
            clear hb rb
            go_wp2_with fail
            refine hK.out _ _ hTP (fun hH6 => ?_)
            clear hK K
            try simp only [Act.put, List.setIfInBounds_toArray, List.set_cons_zero, List.set_cons_succ]
            refine wpAnyH_ready (rs := [13]) (by kernel_rfl) (by simp) ?_
            refine AllReadyH.cons (by simp only [List.getElem?_toArray, List.getElem?_cons_succ, List.getElem?_cons_zero]; rfl) (fun K hK => ?_) AllReadyH.nil
            go_simp
            go_at_call 110
            refine (HP2.out _ (HBP.out)).mono ?_
            rintro e wQ ⟨rfl, hb⟩
            have rb : Below wP.heap.size wP wQ := hb
            have hTQ : wQ.cell? ⟨wL.heap.size, 0, none⟩ = some (.string ln.name) ∧ wQ.cell? ⟨wL.heap.size, 1, none⟩ = some (.slice (some ⟨sb, so, none⟩) ln.stops.length s1) ∧ wQ.cell? ⟨wL.heap.size, 2, none⟩ = some (.slice r0 ln.runs.length r1) ∧ wQ.cell? ⟨g, go + k * 5 + 1, none⟩ = some (.int .i64 l.frm) ∧ wQ.cell? ⟨g, go + k * 5 + 2, none⟩ = some (.int .i64 l.dst) ∧ wQ.cell? ⟨w.heap.size, 0, none⟩ = some (.slice a t.net.stops.length c) ∧ wQ.cell? ⟨w.heap.size, 1, none⟩ = some (.slice a' t.net.lines.length c') ∧ wQ.cell? ⟨w.heap.size, 2, none⟩ = some (.slice b t.trips.length d) := ⟨bkeep rb hTP.1, bkeep rb hTP.2.1, bkeep rb hTP.2.2.1, bkeep rb hTP.2.2.2.1, bkeep rb hTP.2.2.2.2.1, bkeep rb hTP.2.2.2.2.2.1, bkeep rb hTP.2.2.2.2.2.2.1, bkeep rb hTP.2.2.2.2.2.2.2⟩
            have HOQ := Lib.hid (own_later HOP.out rb)
            have HBQ : Hid (Below w.heap.size w wQ) := HBP.out.trans (rb.mono HBP.out.size)
            have hzQ : w.heap.size < wQ.heap.size := by have := rb.size; have := hzP; omega
            clear hb rb
            go_wp2_with fail
            refine hK.out _ _ hTQ (fun hH13 => ?_)
            clear hK K
            try simp only [Act.put, List.setIfInBounds_toArray, List.set_cons_zero, List.set_cons_succ]
            refine wpAnyH_take (i := 14) (v := ?_) (by simp only [List.getElem?_toArray, List.getElem?_cons_succ, List.getElem?_cons_zero]; rfl) (by kernel_rfl) (by kernel_rfl) (by kernel_rfl) (by exact fun _ _ _ h => h) (Or.inl ⟨by rfl, ?_⟩) (by assumption) ?_
            rotate_left
            · intro w' hSw; obtain ⟨e0, e1, e2, e3, e4, e5, e6, e7⟩ := hSw
              go_simp; try with_reducible rfl
            try simp only [Act.put, List.setIfInBounds_toArray, List.set_cons_zero, List.set_cons_succ]
            refine wpAnyH_take (i := 15) (v := ?_) (by simp only [List.getElem?_toArray, List.getElem?_cons_succ, List.getElem?_cons_zero]; rfl) (by kernel_rfl) (by kernel_rfl) (by kernel_rfl) (by exact fun _ _ _ h => h) (Or.inl ⟨by rfl, ?_⟩) (by assumption) ?_
            rotate_left
            · intro w' hSw; obtain ⟨e0, e1, e2, e3, e4, e5, e6, e7⟩ := hSw
              go_simp; try with_reducible rfl
            try simp only [Act.put, List.setIfInBounds_toArray, List.set_cons_zero, List.set_cons_succ]
            refine wpAnyH_done (by kernel_rfl) ?_ _
            obtain ⟨X0, X1, X2, -, -, b0, b1, b2⟩ := hTQ
            obtain ⟨_, _, he, -, hrc⟩ := rowI_at (hrs.below rfl HBQ.out) (by omega)
            simp at he
            obtain ⟨rfl, rfl⟩ := he
            have hA0 := hrc A (by omega)
            rw [hAg] at hA0
            have hdl : (ln.stops.drop (A + 1)).length = ln.stops.length - (A + 1) := List.length_drop
            have hyl : ((ln.stops.drop (A + 1)).take (B - A)).length = B - A := by rw [List.length_take, hdl]; omega
            have hwa : IntKind.i64.wrap ((A : Int) + 1) = (A : Int) + 1 := IntWalk.i64_in _ (by omega)
            have hwb : IntKind.i64.wrap ((B : Int) + 1) = (B : Int) + 1 := IntWalk.i64_in _ (by omega)
            have hta : ((A : Int) + 1).toNat = A + 1 := by omega
            have htb : ((B : Int) + 1).toNat = B + 1 := by omega
            have hm0 : (0 : Int) ≤ (A : Int) + 1 := by omega
            have hm1 : (A : Int) + 1 ≤ (B : Int) + 1 := by omega
            have hm2 : (B : Int) + 1 ≤ (s1 : Int) := by omega
            have hm3 : (0 : Int) ≤ (A : Int) := by omega
            have hm4 : (A : Int) < (ln.stops.length : Int) := by omega
            have hms : ¬ s1 = A + 1 := by omega
            have hms2 : ¬ s1 - (A + 1) = 0 := by omega
            clear hrc
            by_cases hk0 : k = 0
            · have hkb : ((k : Int) == 0) = true := by simp [hk0]
              have HF1 : Hid (spL t cs f0 (k + 1) = (fs ++ [l.frm]) ++ ((ln.stops.drop (A + 1)).take (B - A))) := by
                show _ = _
                rw [← Hfs.out, HFr.out hk0, spL_succ, hk0]
                have := HSg.out
                rw [hk0] at this
                show [f0] ++ svF t cs 1 = _
                rw [this]; rfl
              have hba9 : Below wQ.heap.size wQ (wQ.alloc (.cells #[.int .i64 l.frm] 3)) := (Below.refl _ _).alloc (Nat.le_refl _) _
              have hy1 : RowAt (wQ.alloc (.cells #[.int .i64 l.frm] 3)) (.slice (some ⟨wQ.heap.size, 0, none⟩) 1 1) (ints [l.frm]) := rowAt_own (B := 0) (n := 1) (e := 3) (by
                have h := World.ownsRow_lit (base := 0) (e := 3) (size := 1) wQ #[.int .i64 l.frm] 1 (Nat.zero_le _) (by decide) (by simp)
                simpa [ints] using h)
              have hOq := own_later HOQ.out hba9
              obtain ⟨v9, w9, hrun9, hown9, hgr9, hloc9⟩ := run_append_ints _ (w.heap.size + 1) _ _ _ hOq wQ.heap.size 0 1 [l.frm] hy1 (by have := HFl.out; simp only [List.length_singleton]; omega) (by have := hzQ; simp; omega)
              simp only [List.length_singleton] at hrun9 hown9
              have hb9 : Below (w.heap.size + 1) (wQ.alloc (.cells #[.int .i64 l.frm] 3)) w9 := ⟨hgr9.os, hgr9.tape, hgr9.output, hgr9.size, fun q hq => hgr9.block q (by have := hzQ; simp; omega) (fun e => by have := (HOQ.out.lt q e.symm).1; omega)⟩
              have HB9 : Hid (Below w.heap.size w w9) := (HBQ.out.trans (hba9.mono HBQ.out.size)).trans (hb9.mono (Nat.le_succ _))
              have HO9 : Hid (w9.ownsRow (w.heap.size + 1) 3 1 v9 (fs ++ [l.frm]).length (ints (fs ++ [l.frm]))) := by
                show World.ownsRow _ _ _ _ _ _ _
                rw [List.length_append]; exact hown9
              have d0 := (hb9.cell (show w.heap.size < w.heap.size + 1 by omega)).trans (acell b0 _)
              have d1 := (hb9.cell (show w.heap.size < w.heap.size + 1 by omega)).trans (acell b1 _)
              have d2 := (hb9.cell (show w.heap.size < w.heap.size + 1 by omega)).trans (acell b2 _)
              have X19 : w9.cell? ⟨wL.heap.size, 1, none⟩ = some (.slice (some ⟨_, _, none⟩) ln.stops.length s1) := hgr9.cell (acell X1 _) (fun e => by have h := (HOwn.out.lt _ (by first | exact e | exact e.symm)).2; dsimp only at h; omega)
              have hz9 : w.heap.size < w9.heap.size := by have := hb9.size; simp at this; have := hzQ; omega
              clear hba9 hy1 hOq hown9 hgr9 hloc9 hb9
              have hdr := rowAt_dropI (k := A + 1) (hrs.below rfl HB9.out) (by omega)
              have hdr2 := rowAt_takeI (k := B - A) (by rw [hdl]; exact hdr) (by rw [hdl]; omega)
              obtain ⟨v8, w8, hrun, hown8, hgr8, hloc8⟩ := run_append_ints w9 (w.heap.size + 1) _ v9 _ HO9.out sb (so + (A + 1)) (s1 - (A + 1)) ((ln.stops.drop (A + 1)).take (B - A)) (by rw [hyl]; exact hdr2) (by rw [hyl]; have := HFl.out; (try simp only [List.length_append, List.length_singleton, List.length_nil]); omega) (by have := hz9; omega)
              rw [hyl] at hrun
              have hb8 : Below (w.heap.size + 1) w9 w8 := ⟨hgr8.os, hgr8.tape, hgr8.output, hgr8.size, fun q hq => hgr8.block q (by have := hz9; omega) (fun e => by have := (HO9.out.lt q e.symm).1; omega)⟩
              have HB8 : Hid (Below w.heap.size w w8) := HB9.out.trans (hb8.mono (Nat.le_succ _))
              have HO8 : Hid (w8.ownsRow (w.heap.size + 1) 3 1 v8 (spL t cs f0 (k + 1)).length (ints (spL t cs f0 (k + 1)))) := by
                show World.ownsRow _ _ _ _ _ _ _
                rw [HF1.out, List.length_append]; exact hown8
              have q0 := (hb8.cell (show w.heap.size < w.heap.size + 1 by omega)).trans d0
              have q1 := (hb8.cell (show w.heap.size < w.heap.size + 1 by omega)).trans d1
              have q2 := (hb8.cell (show w.heap.size < w.heap.size + 1 by omega)).trans d2
              have hz8 : w.heap.size < w8.heap.size := by have := hb8.size; have := HB8.out.size; omega
              clear hown8 hgr8 hloc8 hdr hdr2 hb8
              go_wp2_with (at_builtin; first | refine wpList_append_run rfl (.tmp 57) (.tmp 63) 45 rfl rfl rfl hrun9 ?_ | refine wpList_append_run rfl (.tmp 65) (.tmp 72) 45 rfl rfl rfl hrun ?_)
              go_roundw
              case rel => exact ⟨k + 1, by omega, by go_num, HO8, q0, q1, q2, HB8, hz8⟩
              case measure => simp [RowKit.intOf]; omega
            · have hkb : ((k : Int) == 0) = false := by simp; omega
              have HF1 : Hid (spL t cs f0 (k + 1) = fs ++ ((ln.stops.drop (A + 1)).take (B - A))) := by
                show _ = _
                rw [← Hfs.out, spL_succ, HSg.out]
                unfold spL; rw [if_neg hk0, List.append_assoc]
              have hdr := rowAt_dropI (k := A + 1) (hrs.below rfl HBQ.out) (by omega)
              have hdr2 := rowAt_takeI (k := B - A) (by rw [hdl]; exact hdr) (by rw [hdl]; omega)
              obtain ⟨v8, w8, hrun, hown8, hgr8, hloc8⟩ := run_append_ints wQ (w.heap.size + 1) _ _ _ HOQ.out sb (so + (A + 1)) (s1 - (A + 1)) ((ln.stops.drop (A + 1)).take (B - A)) (by rw [hyl]; exact hdr2) (by rw [hyl]; have := HFl.out; (try simp only [List.length_append, List.length_singleton, List.length_nil]); omega) (by have := hzQ; omega)
              rw [hyl] at hrun
              have hb8 : Below (w.heap.size + 1) wQ w8 := ⟨hgr8.os, hgr8.tape, hgr8.output, hgr8.size, fun q hq => hgr8.block q (by have := hzQ; omega) (fun e => by have := (HOQ.out.lt q e.symm).1; omega)⟩
              have HB8 : Hid (Below w.heap.size w w8) := HBQ.out.trans (hb8.mono (Nat.le_succ _))
              have HO8 : Hid (w8.ownsRow (w.heap.size + 1) 3 1 v8 (spL t cs f0 (k + 1)).length (ints (spL t cs f0 (k + 1)))) := by
                show World.ownsRow _ _ _ _ _ _ _
                rw [HF1.out, List.length_append]; exact hown8
              have q0 := (hb8.cell (show w.heap.size < w.heap.size + 1 by omega)).trans b0
              have q1 := (hb8.cell (show w.heap.size < w.heap.size + 1 by omega)).trans b1
              have q2 := (hb8.cell (show w.heap.size < w.heap.size + 1 by omega)).trans b2
              have hz8 : w.heap.size < w8.heap.size := by have := hb8.size; have := HB8.out.size; omega
              clear hown8 hgr8 hloc8 hdr hdr2 hb8
              go_wp2_with (at_builtin; refine wpList_append_run rfl (.tmp 65) (.tmp 72) 45 rfl rfl rfl hrun ?_)
              go_roundw
              case rel => exact ⟨k + 1, by omega, by go_num, HO8, q0, q1, q2, HB8, hz8⟩
              case measure => simp [RowKit.intOf]; omega
          · go_simp
            obtain ⟨wA, hwA⟩ : ∃ wA : World, wA = World.alloc wF (.cells #[.string ⟨#[]⟩, .slice none 0 0, .slice none 0 0] 104) := ⟨_, rfl⟩
            have rb : Below wF.heap.size wF wA := by rw [hwA]; exact (Below.refl _ _).alloc (Nat.le_refl _) _
            have hSA : wA.cell? ⟨w.heap.size, 0, none⟩ = some (.slice a t.net.stops.length c) ∧ wA.cell? ⟨w.heap.size, 1, none⟩ = some (.slice a' t.net.lines.length c') ∧ wA.cell? ⟨w.heap.size, 2, none⟩ = some (.slice b t.trips.length d) ∧ wA.cell? ⟨g, go + k * 5, none⟩ = some (.int .i64 l.trip) := ⟨bkeep rb hSF.1, bkeep rb hSF.2.1, bkeep rb hSF.2.2.1, bkeep rb hSF.2.2.2⟩
            have HOA := Lib.hid (own_later HOF.out rb)
            have HBA : Hid (Below w.heap.size w wA) := HBF.out.trans (rb.mono HBF.out.size)
            have hzA : wo.heap.size ≤ wA.heap.size := Nat.le_trans hzF rb.size
            have HZA : Hid (Z3 wA wF.heap.size) := by rw [hwA]; exact Z3.new _
            rw [← hwA]
            clear rb hwA
            refine hK.out _ _ hSA (fun hH9 => ?_)
            clear hK K
            try simp only [Act.put, List.setIfInBounds_toArray, List.set_cons_zero, List.set_cons_succ]
            refine wpAnyH_ready (rs := [8]) (by kernel_rfl) (by simp) ?_
            refine AllReadyH.cons (by simp only [List.getElem?_toArray, List.getElem?_cons_succ, List.getElem?_cons_zero]; rfl) (fun K hK => ?_) AllReadyH.nil
            go_simp
            go_at_call 108
            refine (HLn.out _ (HBA.out)).mono ?_
            rintro e wL ⟨rfl, hb⟩
            have rb : Below wA.heap.size wA wL := hb
            have hSL : wL.cell? ⟨w.heap.size, 0, none⟩ = some (.slice a t.net.stops.length c) ∧ wL.cell? ⟨w.heap.size, 1, none⟩ = some (.slice a' t.net.lines.length c') ∧ wL.cell? ⟨w.heap.size, 2, none⟩ = some (.slice b t.trips.length d) ∧ wL.cell? ⟨g, go + k * 5, none⟩ = some (.int .i64 l.trip) := ⟨bkeep rb hSA.1, bkeep rb hSA.2.1, bkeep rb hSA.2.2.1, bkeep rb hSA.2.2.2⟩
            have HOL := Lib.hid (own_later HOA.out rb)
            have HBL : Hid (Below w.heap.size w wL) := HBA.out.trans (rb.mono HBA.out.size)
            have hzL : wo.heap.size ≤ wL.heap.size := Nat.le_trans hzA rb.size
            have HZL := Lib.hid (HZA.out.later rb)
            clear hb rb
            go_wp2_with fail
            refine hK.out _ _ hSL (fun hH8 => ?_)
            clear hK K
            try simp only [Act.put, List.setIfInBounds_toArray, List.set_cons_zero, List.set_cons_succ]
            refine wpAnyH_ready (rs := [10]) (by kernel_rfl) (by simp) ?_
            refine AllReadyH.cons (by simp only [List.getElem?_toArray, List.getElem?_cons_succ, List.getElem?_cons_zero]; rfl) (fun K hK => ?_) AllReadyH.nil
            obtain ⟨zz0, zz1, zz2, zl, zf⟩ := HZL.out
            go_simp
            obtain ⟨wS, hwS⟩ : ∃ wS : World, wS = (((wL.setCell ⟨wF.heap.size, 0, none⟩ (.string ln.name)).setCell ⟨wF.heap.size, 1, none⟩ (.slice (some ⟨sb, so, none⟩) ln.stops.length s1)).setCell ⟨wF.heap.size, 2, none⟩ (.slice r0 ln.runs.length r1)) := ⟨_, rfl⟩
            have hgS : wL.grownBy wS (some wF.heap.size) := by rw [hwS]; exact gr_trans (gr_trans (gr_set _ _ _ _) (gr_set _ _ _ _)) (gr_set _ _ _ _)
            have hxw : w.heap.size < wF.heap.size := by have := hzF; omega
            have hxo : wo.heap.size ≤ wF.heap.size := by exact hzF
            have hgl : g < wo.heap.size := World.block_lt_of_cell? wo _ hS0.2.2.2
            have hSS : wS.cell? ⟨w.heap.size, 0, none⟩ = some (.slice a t.net.stops.length c) ∧ wS.cell? ⟨w.heap.size, 1, none⟩ = some (.slice a' t.net.lines.length c') ∧ wS.cell? ⟨w.heap.size, 2, none⟩ = some (.slice b t.trips.length d) ∧ wS.cell? ⟨g, go + k * 5, none⟩ = some (.int .i64 l.trip) := ⟨gr_cell hgS hSL.1 (by show w.heap.size ≠ _; omega), gr_cell hgS hSL.2.1 (by show w.heap.size ≠ _; omega), gr_cell hgS hSL.2.2.1 (by show w.heap.size ≠ _; omega), gr_cell hgS hSL.2.2.2 (by show g ≠ _; omega)⟩
            have HBS : Hid (Below w.heap.size w wS) := HBL.out.trans (below_gr hgS (by omega) HBL.out.size)
            have HOS : Hid (wS.ownsRow (w.heap.size + 1) 3 1 (.slice oa fs.length oc) fs.length (ints fs)) := gr_own hgS HOL.out (fun e => by have := (HOwn.out.lt _ e).2; omega)
            have hzS : w.heap.size < wS.heap.size := by have := hgS.size; have := HBL.out.size; omega
            have X0 : wS.cell? ⟨wF.heap.size, 0, none⟩ = some (.string ln.name) := by rw [hwS]; go_simp
            have X1 : wS.cell? ⟨wF.heap.size, 1, none⟩ = some (.slice (some ⟨sb, so, none⟩) ln.stops.length s1) := by rw [hwS]; go_simp
            have X2 : wS.cell? ⟨wF.heap.size, 2, none⟩ = some (.slice r0 ln.runs.length r1) := by rw [hwS]; go_simp
            rw [← hwS]
            refine hK.out _ _ hSS (fun hH10 => ?_)
            clear hgS hwS zz0 zz1 zz2 zl zf
            clear hK K
            try simp only [Act.put, List.setIfInBounds_toArray, List.set_cons_zero, List.set_cons_succ]
            refine wpAnyH_done (by kernel_rfl) ?_ _
            obtain ⟨b0, b1, b2, -⟩ := hSS
            have HU := HUs.out wS HBS.out
            have hTS : wS.drew.cell? ⟨wF.heap.size, 0, none⟩ = some (.string ln.name) ∧ wS.drew.cell? ⟨wF.heap.size, 1, none⟩ = some (.slice (some ⟨sb, so, none⟩) ln.stops.length s1) ∧ wS.drew.cell? ⟨wF.heap.size, 2, none⟩ = some (.slice r0 ln.runs.length r1) ∧ wS.drew.cell? ⟨g, go + k * 5 + 1, none⟩ = some (.int .i64 l.frm) ∧ wS.drew.cell? ⟨g, go + k * 5 + 2, none⟩ = some (.int .i64 l.dst) ∧ wS.drew.cell? ⟨w.heap.size, 0, none⟩ = some (.slice a t.net.stops.length c) ∧ wS.drew.cell? ⟨w.heap.size, 1, none⟩ = some (.slice a' t.net.lines.length c') ∧ wS.drew.cell? ⟨w.heap.size, 2, none⟩ = some (.slice b t.trips.length d) := ⟨X0, X1, X2, HU.1, HU.2, b0, b1, b2⟩
            clear X0 X1 X2 HU b0 b1 b2 hS0
            go_wp2_with fail
            refine wp_region_held_drew (S := (fun w' => w'.cell? ⟨wF.heap.size, 0, none⟩ = some (.string ln.name) ∧ w'.cell? ⟨wF.heap.size, 1, none⟩ = some (.slice (some ⟨sb, so, none⟩) ln.stops.length s1) ∧ w'.cell? ⟨wF.heap.size, 2, none⟩ = some (.slice r0 ln.runs.length r1) ∧ w'.cell? ⟨g, go + k * 5 + 1, none⟩ = some (.int .i64 l.frm) ∧ w'.cell? ⟨g, go + k * 5 + 2, none⟩ = some (.int .i64 l.dst) ∧ w'.cell? ⟨w.heap.size, 0, none⟩ = some (.slice a t.net.stops.length c) ∧ w'.cell? ⟨w.heap.size, 1, none⟩ = some (.slice a' t.net.lines.length c') ∧ w'.cell? ⟨w.heap.size, 2, none⟩ = some (.slice b t.trips.length d))) (by kernel_rfl) ?_ (fun hHeld => ?_)
            · exact hTS
            refine wpAnyH_take (i := 0) (v := ?_) (by simp only [List.getElem?_toArray, List.getElem?_cons_zero]; rfl) (by kernel_rfl) (by kernel_rfl) (by kernel_rfl) (by exact fun _ _ _ h => h) (Or.inl ⟨by rfl, ?_⟩) (by assumption) ?_
            rotate_left
            · intro w' hSw; obtain ⟨e0, e1, e2, e3, e4, e5, e6, e7⟩ := hSw
              go_simp; try with_reducible rfl
            try simp only [Act.put, List.setIfInBounds_toArray, List.set_cons_zero, List.set_cons_succ]
            refine wpAnyH_take (i := 1) (v := ?_) (by simp only [List.getElem?_toArray, List.getElem?_cons_succ, List.getElem?_cons_zero]; rfl) (by kernel_rfl) (by kernel_rfl) (by kernel_rfl) (by exact fun _ _ _ h => h) (Or.inl ⟨by rfl, ?_⟩) (by assumption) ?_
            rotate_left
            · intro w' hSw; obtain ⟨e0, e1, e2, e3, e4, e5, e6, e7⟩ := hSw
              go_simp; try with_reducible rfl
            try simp only [Act.put, List.setIfInBounds_toArray, List.set_cons_zero, List.set_cons_succ]
            refine wpAnyH_take (i := 2) (v := ?_) (by simp only [List.getElem?_toArray, List.getElem?_cons_succ, List.getElem?_cons_zero]; rfl) (by kernel_rfl) (by kernel_rfl) (by kernel_rfl) (by exact fun _ _ _ h => h) (Or.inl ⟨by rfl, ?_⟩) (by assumption) ?_
            rotate_left
            · intro w' hSw; obtain ⟨e0, e1, e2, e3, e4, e5, e6, e7⟩ := hSw
              go_simp; try with_reducible rfl
            try simp only [Act.put, List.setIfInBounds_toArray, List.set_cons_zero, List.set_cons_succ]
            refine wpAnyH_take (i := 3) (v := ?_) (by simp only [List.getElem?_toArray, List.getElem?_cons_succ, List.getElem?_cons_zero]; rfl) (by kernel_rfl) (by kernel_rfl) (by kernel_rfl) (by exact fun _ _ _ h => h) (Or.inl ⟨by rfl, ?_⟩) (by assumption) ?_
            rotate_left
            · intro w' hSw; obtain ⟨e0, e1, e2, e3, e4, e5, e6, e7⟩ := hSw
              go_simp; try with_reducible rfl
            try simp only [Act.put, List.setIfInBounds_toArray, List.set_cons_zero, List.set_cons_succ]
            refine wpAnyH_take (i := 4) (v := ?_) (by simp only [List.getElem?_toArray, List.getElem?_cons_succ, List.getElem?_cons_zero]; rfl) (by kernel_rfl) (by kernel_rfl) (by kernel_rfl) (by exact fun _ _ _ h => h) (Or.inl ⟨by rfl, ?_⟩) (by assumption) ?_
            rotate_left
            · intro w' hSw; obtain ⟨e0, e1, e2, e3, e4, e5, e6, e7⟩ := hSw
              go_simp; try with_reducible rfl
            try simp only [Act.put, List.setIfInBounds_toArray, List.set_cons_zero, List.set_cons_succ]
            refine wpAnyH_take (i := 5) (v := ?_) (by simp only [List.getElem?_toArray, List.getElem?_cons_succ, List.getElem?_cons_zero]; rfl) (by kernel_rfl) (by kernel_rfl) (by kernel_rfl) (by exact fun _ _ _ h => h) (Or.inl ⟨by rfl, ?_⟩) (by assumption) ?_
            rotate_left
            · intro w' hSw; obtain ⟨e0, e1, e2, e3, e4, e5, e6, e7⟩ := hSw
              go_simp; try with_reducible rfl
            try simp only [Act.put, List.setIfInBounds_toArray, List.set_cons_zero, List.set_cons_succ]
            refine wpAnyH_take (i := 7) (v := ?_) (by simp only [List.getElem?_toArray, List.getElem?_cons_succ, List.getElem?_cons_zero]; rfl) (by kernel_rfl) (by kernel_rfl) (by kernel_rfl) (by exact fun _ _ _ h => h) (Or.inl ⟨by rfl, ?_⟩) (by assumption) ?_
            rotate_left
            · intro w' hSw; obtain ⟨e0, e1, e2, e3, e4, e5, e6, e7⟩ := hSw
              go_simp; try with_reducible rfl
            try simp only [Act.put, List.setIfInBounds_toArray, List.set_cons_zero, List.set_cons_succ]
            refine wpAnyH_take (i := 8) (v := ?_) (by simp only [List.getElem?_toArray, List.getElem?_cons_succ, List.getElem?_cons_zero]; rfl) (by kernel_rfl) (by kernel_rfl) (by kernel_rfl) (by exact fun _ _ _ h => h) (Or.inl ⟨by rfl, ?_⟩) (by assumption) ?_
            rotate_left
            · intro w' hSw; obtain ⟨e0, e1, e2, e3, e4, e5, e6, e7⟩ := hSw
              go_simp; try with_reducible rfl
            try simp only [Act.put, List.setIfInBounds_toArray, List.set_cons_zero, List.set_cons_succ]
            refine wpAnyH_take (i := 9) (v := ?_) (by simp only [List.getElem?_toArray, List.getElem?_cons_succ, List.getElem?_cons_zero]; rfl) (by kernel_rfl) (by kernel_rfl) (by kernel_rfl) (by exact fun _ _ _ h => h) (Or.inl ⟨by rfl, ?_⟩) (by assumption) ?_
            rotate_left
            · intro w' hSw; obtain ⟨e0, e1, e2, e3, e4, e5, e6, e7⟩ := hSw
              go_simp; try with_reducible rfl
            try simp only [Act.put, List.setIfInBounds_toArray, List.set_cons_zero, List.set_cons_succ]
            refine wpAnyH_take (i := 10) (v := ?_) (by simp only [List.getElem?_toArray, List.getElem?_cons_succ, List.getElem?_cons_zero]; rfl) (by kernel_rfl) (by kernel_rfl) (by kernel_rfl) (by exact fun _ _ _ h => h) (Or.inl ⟨by rfl, ?_⟩) (by assumption) ?_
            rotate_left
            · intro w' hSw; obtain ⟨e0, e1, e2, e3, e4, e5, e6, e7⟩ := hSw
              go_simp; try with_reducible rfl
            try simp only [Act.put, List.setIfInBounds_toArray, List.set_cons_zero, List.set_cons_succ]
            refine wpAnyH_take (i := 11) (v := ?_) (by simp only [List.getElem?_toArray, List.getElem?_cons_succ, List.getElem?_cons_zero]; rfl) (by kernel_rfl) (by kernel_rfl) (by kernel_rfl) (by exact fun _ _ _ h => h) (Or.inl ⟨by rfl, ?_⟩) (by assumption) ?_
            rotate_left
            · intro w' hSw; obtain ⟨e0, e1, e2, e3, e4, e5, e6, e7⟩ := hSw
              go_simp; try with_reducible rfl
            try simp only [Act.put, List.setIfInBounds_toArray, List.set_cons_zero, List.set_cons_succ]
            refine wpAnyH_take (i := 12) (v := ?_) (by simp only [List.getElem?_toArray, List.getElem?_cons_succ, List.getElem?_cons_zero]; rfl) (by kernel_rfl) (by kernel_rfl) (by kernel_rfl) (by exact fun _ _ _ h => h) (Or.inl ⟨by rfl, ?_⟩) (by assumption) ?_
            rotate_left
            · intro w' hSw; obtain ⟨e0, e1, e2, e3, e4, e5, e6, e7⟩ := hSw
              go_simp; try with_reducible rfl
            try simp only [Act.put, List.setIfInBounds_toArray, List.set_cons_zero, List.set_cons_succ]
            refine wpAnyH_ready (rs := [6]) (by kernel_rfl) (by simp) ?_
            refine AllReadyH.cons (by simp only [List.getElem?_toArray, List.getElem?_cons_succ, List.getElem?_cons_zero]; rfl) (fun K hK => ?_) AllReadyH.nil
            go_simp
            go_at_call 110
            refine (HP1.out _ (HBS.out.drew)).mono ?_
            rintro e wP ⟨rfl, hb⟩
            have rb : Below wS.heap.size wS wP := (Below.refl _ _).drew.trans hb
            have hTP : wP.cell? ⟨wF.heap.size, 0, none⟩ = some (.string ln.name) ∧ wP.cell? ⟨wF.heap.size, 1, none⟩ = some (.slice (some ⟨sb, so, none⟩) ln.stops.length s1) ∧ wP.cell? ⟨wF.heap.size, 2, none⟩ = some (.slice r0 ln.runs.length r1) ∧ wP.cell? ⟨g, go + k * 5 + 1, none⟩ = some (.int .i64 l.frm) ∧ wP.cell? ⟨g, go + k * 5 + 2, none⟩ = some (.int .i64 l.dst) ∧ wP.cell? ⟨w.heap.size, 0, none⟩ = some (.slice a t.net.stops.length c) ∧ wP.cell? ⟨w.heap.size, 1, none⟩ = some (.slice a' t.net.lines.length c') ∧ wP.cell? ⟨w.heap.size, 2, none⟩ = some (.slice b t.trips.length d) := ⟨bkeep rb hTS.1, bkeep rb hTS.2.1, bkeep rb hTS.2.2.1, bkeep rb hTS.2.2.2.1, bkeep rb hTS.2.2.2.2.1, bkeep rb hTS.2.2.2.2.2.1, bkeep rb hTS.2.2.2.2.2.2.1, bkeep rb hTS.2.2.2.2.2.2.2⟩
            have HOP := Lib.hid (own_later HOS.out rb)
            have HBP : Hid (Below w.heap.size w wP) := HBS.out.trans (rb.mono HBS.out.size)
            have hzP : w.heap.size < wP.heap.size := by have := rb.size; have := hzS; omega
            clear hb rb
            go_wp2_with fail
            refine hK.out _ _ hTP (fun hH6 => ?_)
            clear hK K
            try simp only [Act.put, List.setIfInBounds_toArray, List.set_cons_zero, List.set_cons_succ]
            refine wpAnyH_ready (rs := [13]) (by kernel_rfl) (by simp) ?_
            refine AllReadyH.cons (by simp only [List.getElem?_toArray, List.getElem?_cons_succ, List.getElem?_cons_zero]; rfl) (fun K hK => ?_) AllReadyH.nil
            go_simp
            go_at_call 110
            refine (HP2.out _ (HBP.out)).mono ?_
            rintro e wQ ⟨rfl, hb⟩
            have rb : Below wP.heap.size wP wQ := hb
            have hTQ : wQ.cell? ⟨wF.heap.size, 0, none⟩ = some (.string ln.name) ∧ wQ.cell? ⟨wF.heap.size, 1, none⟩ = some (.slice (some ⟨sb, so, none⟩) ln.stops.length s1) ∧ wQ.cell? ⟨wF.heap.size, 2, none⟩ = some (.slice r0 ln.runs.length r1) ∧ wQ.cell? ⟨g, go + k * 5 + 1, none⟩ = some (.int .i64 l.frm) ∧ wQ.cell? ⟨g, go + k * 5 + 2, none⟩ = some (.int .i64 l.dst) ∧ wQ.cell? ⟨w.heap.size, 0, none⟩ = some (.slice a t.net.stops.length c) ∧ wQ.cell? ⟨w.heap.size, 1, none⟩ = some (.slice a' t.net.lines.length c') ∧ wQ.cell? ⟨w.heap.size, 2, none⟩ = some (.slice b t.trips.length d) := ⟨bkeep rb hTP.1, bkeep rb hTP.2.1, bkeep rb hTP.2.2.1, bkeep rb hTP.2.2.2.1, bkeep rb hTP.2.2.2.2.1, bkeep rb hTP.2.2.2.2.2.1, bkeep rb hTP.2.2.2.2.2.2.1, bkeep rb hTP.2.2.2.2.2.2.2⟩
            have HOQ := Lib.hid (own_later HOP.out rb)
            have HBQ : Hid (Below w.heap.size w wQ) := HBP.out.trans (rb.mono HBP.out.size)
            have hzQ : w.heap.size < wQ.heap.size := by have := rb.size; have := hzP; omega
            clear hb rb
            go_wp2_with fail
            refine hK.out _ _ hTQ (fun hH13 => ?_)
            clear hK K
            try simp only [Act.put, List.setIfInBounds_toArray, List.set_cons_zero, List.set_cons_succ]
            refine wpAnyH_take (i := 14) (v := ?_) (by simp only [List.getElem?_toArray, List.getElem?_cons_succ, List.getElem?_cons_zero]; rfl) (by kernel_rfl) (by kernel_rfl) (by kernel_rfl) (by exact fun _ _ _ h => h) (Or.inl ⟨by rfl, ?_⟩) (by assumption) ?_
            rotate_left
            · intro w' hSw; obtain ⟨e0, e1, e2, e3, e4, e5, e6, e7⟩ := hSw
              go_simp; try with_reducible rfl
            try simp only [Act.put, List.setIfInBounds_toArray, List.set_cons_zero, List.set_cons_succ]
            refine wpAnyH_take (i := 15) (v := ?_) (by simp only [List.getElem?_toArray, List.getElem?_cons_succ, List.getElem?_cons_zero]; rfl) (by kernel_rfl) (by kernel_rfl) (by kernel_rfl) (by exact fun _ _ _ h => h) (Or.inl ⟨by rfl, ?_⟩) (by assumption) ?_
            rotate_left
            · intro w' hSw; obtain ⟨e0, e1, e2, e3, e4, e5, e6, e7⟩ := hSw
              go_simp; try with_reducible rfl
            try simp only [Act.put, List.setIfInBounds_toArray, List.set_cons_zero, List.set_cons_succ]
            refine wpAnyH_done (by kernel_rfl) ?_ _
            obtain ⟨X0, X1, X2, -, -, b0, b1, b2⟩ := hTQ
            obtain ⟨_, _, he, -, hrc⟩ := rowI_at (hrs.below rfl HBQ.out) (by omega)
            simp at he
            obtain ⟨rfl, rfl⟩ := he
            have hA0 := hrc A (by omega)
            rw [hAg] at hA0
            have hdl : (ln.stops.drop (A + 1)).length = ln.stops.length - (A + 1) := List.length_drop
            have hyl : ((ln.stops.drop (A + 1)).take (B - A)).length = B - A := by rw [List.length_take, hdl]; omega
            have hwa : IntKind.i64.wrap ((A : Int) + 1) = (A : Int) + 1 := IntWalk.i64_in _ (by omega)
            have hwb : IntKind.i64.wrap ((B : Int) + 1) = (B : Int) + 1 := IntWalk.i64_in _ (by omega)
            have hta : ((A : Int) + 1).toNat = A + 1 := by omega
            have htb : ((B : Int) + 1).toNat = B + 1 := by omega
            have hm0 : (0 : Int) ≤ (A : Int) + 1 := by omega
            have hm1 : (A : Int) + 1 ≤ (B : Int) + 1 := by omega
            have hm2 : (B : Int) + 1 ≤ (s1 : Int) := by omega
            have hm3 : (0 : Int) ≤ (A : Int) := by omega
            have hm4 : (A : Int) < (ln.stops.length : Int) := by omega
            have hms : ¬ s1 = A + 1 := by omega
            have hms2 : ¬ s1 - (A + 1) = 0 := by omega
            clear hrc
            by_cases hk0 : k = 0
            · have hkb : ((k : Int) == 0) = true := by simp [hk0]
              have HF1 : Hid (spL t cs f0 (k + 1) = (fs ++ [l.frm]) ++ ((ln.stops.drop (A + 1)).take (B - A))) := by
                show _ = _
                rw [← Hfs.out, HFr.out hk0, spL_succ, hk0]
                have := HSg.out
                rw [hk0] at this
                show [f0] ++ svF t cs 1 = _
                rw [this]; rfl
              have hba9 : Below wQ.heap.size wQ (wQ.alloc (.cells #[.int .i64 l.frm] 3)) := (Below.refl _ _).alloc (Nat.le_refl _) _
              have hy1 : RowAt (wQ.alloc (.cells #[.int .i64 l.frm] 3)) (.slice (some ⟨wQ.heap.size, 0, none⟩) 1 1) (ints [l.frm]) := rowAt_own (B := 0) (n := 1) (e := 3) (by
                have h := World.ownsRow_lit (base := 0) (e := 3) (size := 1) wQ #[.int .i64 l.frm] 1 (Nat.zero_le _) (by decide) (by simp)
                simpa [ints] using h)
              have hOq := own_later HOQ.out hba9
              obtain ⟨v9, w9, hrun9, hown9, hgr9, hloc9⟩ := run_append_ints _ (w.heap.size + 1) _ _ _ hOq wQ.heap.size 0 1 [l.frm] hy1 (by have := HFl.out; simp only [List.length_singleton]; omega) (by have := hzQ; simp; omega)
              simp only [List.length_singleton] at hrun9 hown9
              have hb9 : Below (w.heap.size + 1) (wQ.alloc (.cells #[.int .i64 l.frm] 3)) w9 := ⟨hgr9.os, hgr9.tape, hgr9.output, hgr9.size, fun q hq => hgr9.block q (by have := hzQ; simp; omega) (fun e => by have := (HOQ.out.lt q e.symm).1; omega)⟩
              have HB9 : Hid (Below w.heap.size w w9) := (HBQ.out.trans (hba9.mono HBQ.out.size)).trans (hb9.mono (Nat.le_succ _))
              have HO9 : Hid (w9.ownsRow (w.heap.size + 1) 3 1 v9 (fs ++ [l.frm]).length (ints (fs ++ [l.frm]))) := by
                show World.ownsRow _ _ _ _ _ _ _
                rw [List.length_append]; exact hown9
              have d0 := (hb9.cell (show w.heap.size < w.heap.size + 1 by omega)).trans (acell b0 _)
              have d1 := (hb9.cell (show w.heap.size < w.heap.size + 1 by omega)).trans (acell b1 _)
              have d2 := (hb9.cell (show w.heap.size < w.heap.size + 1 by omega)).trans (acell b2 _)
              have X19 : w9.cell? ⟨wF.heap.size, 1, none⟩ = some (.slice (some ⟨_, _, none⟩) ln.stops.length s1) := hgr9.cell (acell X1 _) (fun e => by have h := (HOwn.out.lt _ (by first | exact e | exact e.symm)).2; dsimp only at h; omega)
              have hz9 : w.heap.size < w9.heap.size := by have := hb9.size; simp at this; have := hzQ; omega
              clear hba9 hy1 hOq hown9 hgr9 hloc9 hb9
              have hdr := rowAt_dropI (k := A + 1) (hrs.below rfl HB9.out) (by omega)
              have hdr2 := rowAt_takeI (k := B - A) (by rw [hdl]; exact hdr) (by rw [hdl]; omega)
              obtain ⟨v8, w8, hrun, hown8, hgr8, hloc8⟩ := run_append_ints w9 (w.heap.size + 1) _ v9 _ HO9.out sb (so + (A + 1)) (s1 - (A + 1)) ((ln.stops.drop (A + 1)).take (B - A)) (by rw [hyl]; exact hdr2) (by rw [hyl]; have := HFl.out; (try simp only [List.length_append, List.length_singleton, List.length_nil]); omega) (by have := hz9; omega)
              rw [hyl] at hrun
              have hb8 : Below (w.heap.size + 1) w9 w8 := ⟨hgr8.os, hgr8.tape, hgr8.output, hgr8.size, fun q hq => hgr8.block q (by have := hz9; omega) (fun e => by have := (HO9.out.lt q e.symm).1; omega)⟩
              have HB8 : Hid (Below w.heap.size w w8) := HB9.out.trans (hb8.mono (Nat.le_succ _))
              have HO8 : Hid (w8.ownsRow (w.heap.size + 1) 3 1 v8 (spL t cs f0 (k + 1)).length (ints (spL t cs f0 (k + 1)))) := by
                show World.ownsRow _ _ _ _ _ _ _
                rw [HF1.out, List.length_append]; exact hown8
              have q0 := (hb8.cell (show w.heap.size < w.heap.size + 1 by omega)).trans d0
              have q1 := (hb8.cell (show w.heap.size < w.heap.size + 1 by omega)).trans d1
              have q2 := (hb8.cell (show w.heap.size < w.heap.size + 1 by omega)).trans d2
              have hz8 : w.heap.size < w8.heap.size := by have := hb8.size; have := HB8.out.size; omega
              clear hown8 hgr8 hloc8 hdr hdr2 hb8
              go_wp2_with (at_builtin; first | refine wpList_append_run rfl (.tmp 57) (.tmp 63) 45 rfl rfl rfl hrun9 ?_ | refine wpList_append_run rfl (.tmp 65) (.tmp 72) 45 rfl rfl rfl hrun ?_)
              go_roundw
              case rel => exact ⟨k + 1, by omega, by go_num, HO8, q0, q1, q2, HB8, hz8⟩
              case measure => simp [RowKit.intOf]; omega
            · have hkb : ((k : Int) == 0) = false := by simp; omega
              have HF1 : Hid (spL t cs f0 (k + 1) = fs ++ ((ln.stops.drop (A + 1)).take (B - A))) := by
                show _ = _
                rw [← Hfs.out, spL_succ, HSg.out]
                unfold spL; rw [if_neg hk0, List.append_assoc]
              have hdr := rowAt_dropI (k := A + 1) (hrs.below rfl HBQ.out) (by omega)
              have hdr2 := rowAt_takeI (k := B - A) (by rw [hdl]; exact hdr) (by rw [hdl]; omega)
              obtain ⟨v8, w8, hrun, hown8, hgr8, hloc8⟩ := run_append_ints wQ (w.heap.size + 1) _ _ _ HOQ.out sb (so + (A + 1)) (s1 - (A + 1)) ((ln.stops.drop (A + 1)).take (B - A)) (by rw [hyl]; exact hdr2) (by rw [hyl]; have := HFl.out; (try simp only [List.length_append, List.length_singleton, List.length_nil]); omega) (by have := hzQ; omega)
              rw [hyl] at hrun
              have hb8 : Below (w.heap.size + 1) wQ w8 := ⟨hgr8.os, hgr8.tape, hgr8.output, hgr8.size, fun q hq => hgr8.block q (by have := hzQ; omega) (fun e => by have := (HOQ.out.lt q e.symm).1; omega)⟩
              have HB8 : Hid (Below w.heap.size w w8) := HBQ.out.trans (hb8.mono (Nat.le_succ _))
              have HO8 : Hid (w8.ownsRow (w.heap.size + 1) 3 1 v8 (spL t cs f0 (k + 1)).length (ints (spL t cs f0 (k + 1)))) := by
                show World.ownsRow _ _ _ _ _ _ _
                rw [HF1.out, List.length_append]; exact hown8
              have q0 := (hb8.cell (show w.heap.size < w.heap.size + 1 by omega)).trans b0
              have q1 := (hb8.cell (show w.heap.size < w.heap.size + 1 by omega)).trans b1
              have q2 := (hb8.cell (show w.heap.size < w.heap.size + 1 by omega)).trans b2
              have hz8 : w.heap.size < w8.heap.size := by have := hb8.size; have := HB8.out.size; omega
              clear hown8 hgr8 hloc8 hdr hdr2 hb8
              go_wp2_with (at_builtin; refine wpList_append_run rfl (.tmp 65) (.tmp 72) 45 rfl rfl rfl hrun ?_)
              go_roundw
              case rel => exact ⟨k + 1, by omega, by go_num, HO8, q0, q1, q2, HB8, hz8⟩
              case measure => simp [RowKit.intOf]; omega
        · go_simp
          obtain ⟨wA, hwA⟩ : ∃ wA : World, wA = (World.alloc wo (.cells #[.string ⟨#[]⟩, .slice none 0 0, .slice none 0 0] 104)).drew := ⟨_, rfl⟩
          have rb : Below wo.heap.size wo wA := by rw [hwA]; exact ((Below.refl _ _).alloc (Nat.le_refl _) _).drew
          have hSA : wA.cell? ⟨w.heap.size, 0, none⟩ = some (.slice a t.net.stops.length c) ∧ wA.cell? ⟨w.heap.size, 1, none⟩ = some (.slice a' t.net.lines.length c') ∧ wA.cell? ⟨w.heap.size, 2, none⟩ = some (.slice b t.trips.length d) ∧ wA.cell? ⟨g, go + k * 5, none⟩ = some (.int .i64 l.trip) := ⟨bkeep rb hS0.1, bkeep rb hS0.2.1, bkeep rb hS0.2.2.1, bkeep rb hS0.2.2.2⟩
          have HOA := Lib.hid (own_later HO0.out rb)
          have HBA : Hid (Below w.heap.size w wA) := HB0.out.trans (rb.mono HB0.out.size)
          have hzA : wo.heap.size ≤ wA.heap.size := rb.size
          have HZA : Hid (Z3 wA wo.heap.size) := by rw [hwA]; exact (Z3.new wo).later (Below.refl _ _).drew
          rw [← hwA]
          clear rb hwA
          refine hK.out _ _ hSA (fun hH9 => ?_)
          clear hK K
          try simp only [Act.put, List.setIfInBounds_toArray, List.set_cons_zero, List.set_cons_succ]
          refine wpAnyH_ready (rs := [7]) (by kernel_rfl) (by simp) ?_
          refine AllReadyH.cons (by simp only [List.getElem?_toArray, List.getElem?_cons_succ, List.getElem?_cons_zero]; rfl) (fun K hK => ?_) AllReadyH.nil
          go_simp
          go_at_call 109
          refine (HFd.out _ (HBA.out)).mono ?_
          rintro e wF ⟨rfl, hb⟩
          have rb : Below wA.heap.size wA wF := hb
          have hSF : wF.cell? ⟨w.heap.size, 0, none⟩ = some (.slice a t.net.stops.length c) ∧ wF.cell? ⟨w.heap.size, 1, none⟩ = some (.slice a' t.net.lines.length c') ∧ wF.cell? ⟨w.heap.size, 2, none⟩ = some (.slice b t.trips.length d) ∧ wF.cell? ⟨g, go + k * 5, none⟩ = some (.int .i64 l.trip) := ⟨bkeep rb hSA.1, bkeep rb hSA.2.1, bkeep rb hSA.2.2.1, bkeep rb hSA.2.2.2⟩
          have HOF := Lib.hid (own_later HOA.out rb)
          have HBF : Hid (Below w.heap.size w wF) := HBA.out.trans (rb.mono HBA.out.size)
          have hzF : wo.heap.size ≤ wF.heap.size := Nat.le_trans hzA rb.size
          have HZF := Lib.hid (HZA.out.later rb)
          clear hb rb
          go_wp2_with fail
          refine hK.out _ _ hSF (fun hH7 => ?_)
          clear hK K
          try simp only [Act.put, List.setIfInBounds_toArray, List.set_cons_zero, List.set_cons_succ]
          refine wpAnyH_ready (rs := [8]) (by kernel_rfl) (by simp) ?_
          refine AllReadyH.cons (by simp only [List.getElem?_toArray, List.getElem?_cons_succ, List.getElem?_cons_zero]; rfl) (fun K hK => ?_) AllReadyH.nil
          go_simp
          go_at_call 108
          refine (HLn.out _ (HBF.out)).mono ?_
          rintro e wL ⟨rfl, hb⟩
          have rb : Below wF.heap.size wF wL := hb
          have hSL : wL.cell? ⟨w.heap.size, 0, none⟩ = some (.slice a t.net.stops.length c) ∧ wL.cell? ⟨w.heap.size, 1, none⟩ = some (.slice a' t.net.lines.length c') ∧ wL.cell? ⟨w.heap.size, 2, none⟩ = some (.slice b t.trips.length d) ∧ wL.cell? ⟨g, go + k * 5, none⟩ = some (.int .i64 l.trip) := ⟨bkeep rb hSF.1, bkeep rb hSF.2.1, bkeep rb hSF.2.2.1, bkeep rb hSF.2.2.2⟩
          have HOL := Lib.hid (own_later HOF.out rb)
          have HBL : Hid (Below w.heap.size w wL) := HBF.out.trans (rb.mono HBF.out.size)
          have hzL : wo.heap.size ≤ wL.heap.size := Nat.le_trans hzF rb.size
          have HZL := Lib.hid (HZF.out.later rb)
          clear hb rb
          go_wp2_with fail
          refine hK.out _ _ hSL (fun hH8 => ?_)
          clear hK K
          try simp only [Act.put, List.setIfInBounds_toArray, List.set_cons_zero, List.set_cons_succ]
          refine wpAnyH_ready (rs := [10]) (by kernel_rfl) (by simp) ?_
          refine AllReadyH.cons (by simp only [List.getElem?_toArray, List.getElem?_cons_succ, List.getElem?_cons_zero]; rfl) (fun K hK => ?_) AllReadyH.nil
          obtain ⟨zz0, zz1, zz2, zl, zf⟩ := HZL.out
          go_simp
          obtain ⟨wS, hwS⟩ : ∃ wS : World, wS = (((wL.setCell ⟨wo.heap.size, 0, none⟩ (.string ln.name)).setCell ⟨wo.heap.size, 1, none⟩ (.slice (some ⟨sb, so, none⟩) ln.stops.length s1)).setCell ⟨wo.heap.size, 2, none⟩ (.slice r0 ln.runs.length r1)) := ⟨_, rfl⟩
          have hgS : wL.grownBy wS (some wo.heap.size) := by rw [hwS]; exact gr_trans (gr_trans (gr_set _ _ _ _) (gr_set _ _ _ _)) (gr_set _ _ _ _)
          have hxw : w.heap.size < wo.heap.size := by exact hwo
          have hxo : wo.heap.size ≤ wo.heap.size := by exact Nat.le_refl _
          have hgl : g < wo.heap.size := World.block_lt_of_cell? wo _ hS0.2.2.2
          have hSS : wS.cell? ⟨w.heap.size, 0, none⟩ = some (.slice a t.net.stops.length c) ∧ wS.cell? ⟨w.heap.size, 1, none⟩ = some (.slice a' t.net.lines.length c') ∧ wS.cell? ⟨w.heap.size, 2, none⟩ = some (.slice b t.trips.length d) ∧ wS.cell? ⟨g, go + k * 5, none⟩ = some (.int .i64 l.trip) := ⟨gr_cell hgS hSL.1 (by show w.heap.size ≠ _; omega), gr_cell hgS hSL.2.1 (by show w.heap.size ≠ _; omega), gr_cell hgS hSL.2.2.1 (by show w.heap.size ≠ _; omega), gr_cell hgS hSL.2.2.2 (by show g ≠ _; omega)⟩
          have HBS : Hid (Below w.heap.size w wS) := HBL.out.trans (below_gr hgS (by omega) HBL.out.size)
          have HOS : Hid (wS.ownsRow (w.heap.size + 1) 3 1 (.slice oa fs.length oc) fs.length (ints fs)) := gr_own hgS HOL.out (fun e => by have := (HOwn.out.lt _ e).2; omega)
          have hzS : w.heap.size < wS.heap.size := by have := hgS.size; have := HBL.out.size; omega
          have X0 : wS.cell? ⟨wo.heap.size, 0, none⟩ = some (.string ln.name) := by rw [hwS]; go_simp
          have X1 : wS.cell? ⟨wo.heap.size, 1, none⟩ = some (.slice (some ⟨sb, so, none⟩) ln.stops.length s1) := by rw [hwS]; go_simp
          have X2 : wS.cell? ⟨wo.heap.size, 2, none⟩ = some (.slice r0 ln.runs.length r1) := by rw [hwS]; go_simp
          rw [← hwS]
          refine hK.out _ _ hSS (fun hH10 => ?_)
          clear hgS hwS zz0 zz1 zz2 zl zf
          clear hK K
          try simp only [Act.put, List.setIfInBounds_toArray, List.set_cons_zero, List.set_cons_succ]
          refine wpAnyH_done (by kernel_rfl) ?_ _
          obtain ⟨b0, b1, b2, -⟩ := hSS
          have HU := HUs.out wS HBS.out
          have hTS : wS.drew.cell? ⟨wo.heap.size, 0, none⟩ = some (.string ln.name) ∧ wS.drew.cell? ⟨wo.heap.size, 1, none⟩ = some (.slice (some ⟨sb, so, none⟩) ln.stops.length s1) ∧ wS.drew.cell? ⟨wo.heap.size, 2, none⟩ = some (.slice r0 ln.runs.length r1) ∧ wS.drew.cell? ⟨g, go + k * 5 + 1, none⟩ = some (.int .i64 l.frm) ∧ wS.drew.cell? ⟨g, go + k * 5 + 2, none⟩ = some (.int .i64 l.dst) ∧ wS.drew.cell? ⟨w.heap.size, 0, none⟩ = some (.slice a t.net.stops.length c) ∧ wS.drew.cell? ⟨w.heap.size, 1, none⟩ = some (.slice a' t.net.lines.length c') ∧ wS.drew.cell? ⟨w.heap.size, 2, none⟩ = some (.slice b t.trips.length d) := ⟨X0, X1, X2, HU.1, HU.2, b0, b1, b2⟩
          clear X0 X1 X2 HU b0 b1 b2 hS0
          go_wp2_with fail
          refine wp_region_held_drew (S := (fun w' => w'.cell? ⟨wo.heap.size, 0, none⟩ = some (.string ln.name) ∧ w'.cell? ⟨wo.heap.size, 1, none⟩ = some (.slice (some ⟨sb, so, none⟩) ln.stops.length s1) ∧ w'.cell? ⟨wo.heap.size, 2, none⟩ = some (.slice r0 ln.runs.length r1) ∧ w'.cell? ⟨g, go + k * 5 + 1, none⟩ = some (.int .i64 l.frm) ∧ w'.cell? ⟨g, go + k * 5 + 2, none⟩ = some (.int .i64 l.dst) ∧ w'.cell? ⟨w.heap.size, 0, none⟩ = some (.slice a t.net.stops.length c) ∧ w'.cell? ⟨w.heap.size, 1, none⟩ = some (.slice a' t.net.lines.length c') ∧ w'.cell? ⟨w.heap.size, 2, none⟩ = some (.slice b t.trips.length d))) (by kernel_rfl) ?_ (fun hHeld => ?_)
          · exact hTS
          refine wpAnyH_take (i := 0) (v := ?_) (by simp only [List.getElem?_toArray, List.getElem?_cons_zero]; rfl) (by kernel_rfl) (by kernel_rfl) (by kernel_rfl) (by exact fun _ _ _ h => h) (Or.inl ⟨by rfl, ?_⟩) (by assumption) ?_
          rotate_left
          · intro w' hSw; obtain ⟨e0, e1, e2, e3, e4, e5, e6, e7⟩ := hSw
            go_simp; try with_reducible rfl
          try simp only [Act.put, List.setIfInBounds_toArray, List.set_cons_zero, List.set_cons_succ]
          refine wpAnyH_take (i := 1) (v := ?_) (by simp only [List.getElem?_toArray, List.getElem?_cons_succ, List.getElem?_cons_zero]; rfl) (by kernel_rfl) (by kernel_rfl) (by kernel_rfl) (by exact fun _ _ _ h => h) (Or.inl ⟨by rfl, ?_⟩) (by assumption) ?_
          rotate_left
          · intro w' hSw; obtain ⟨e0, e1, e2, e3, e4, e5, e6, e7⟩ := hSw
            go_simp; try with_reducible rfl
          try simp only [Act.put, List.setIfInBounds_toArray, List.set_cons_zero, List.set_cons_succ]
          refine wpAnyH_take (i := 2) (v := ?_) (by simp only [List.getElem?_toArray, List.getElem?_cons_succ, List.getElem?_cons_zero]; rfl) (by kernel_rfl) (by kernel_rfl) (by kernel_rfl) (by exact fun _ _ _ h => h) (Or.inl ⟨by rfl, ?_⟩) (by assumption) ?_
          rotate_left
          · intro w' hSw; obtain ⟨e0, e1, e2, e3, e4, e5, e6, e7⟩ := hSw
            go_simp; try with_reducible rfl
          try simp only [Act.put, List.setIfInBounds_toArray, List.set_cons_zero, List.set_cons_succ]
          refine wpAnyH_take (i := 3) (v := ?_) (by simp only [List.getElem?_toArray, List.getElem?_cons_succ, List.getElem?_cons_zero]; rfl) (by kernel_rfl) (by kernel_rfl) (by kernel_rfl) (by exact fun _ _ _ h => h) (Or.inl ⟨by rfl, ?_⟩) (by assumption) ?_
          rotate_left
          · intro w' hSw; obtain ⟨e0, e1, e2, e3, e4, e5, e6, e7⟩ := hSw
            go_simp; try with_reducible rfl
          try simp only [Act.put, List.setIfInBounds_toArray, List.set_cons_zero, List.set_cons_succ]
          refine wpAnyH_take (i := 4) (v := ?_) (by simp only [List.getElem?_toArray, List.getElem?_cons_succ, List.getElem?_cons_zero]; rfl) (by kernel_rfl) (by kernel_rfl) (by kernel_rfl) (by exact fun _ _ _ h => h) (Or.inl ⟨by rfl, ?_⟩) (by assumption) ?_
          rotate_left
          · intro w' hSw; obtain ⟨e0, e1, e2, e3, e4, e5, e6, e7⟩ := hSw
            go_simp; try with_reducible rfl
          try simp only [Act.put, List.setIfInBounds_toArray, List.set_cons_zero, List.set_cons_succ]
          refine wpAnyH_take (i := 5) (v := ?_) (by simp only [List.getElem?_toArray, List.getElem?_cons_succ, List.getElem?_cons_zero]; rfl) (by kernel_rfl) (by kernel_rfl) (by kernel_rfl) (by exact fun _ _ _ h => h) (Or.inl ⟨by rfl, ?_⟩) (by assumption) ?_
          rotate_left
          · intro w' hSw; obtain ⟨e0, e1, e2, e3, e4, e5, e6, e7⟩ := hSw
            go_simp; try with_reducible rfl
          try simp only [Act.put, List.setIfInBounds_toArray, List.set_cons_zero, List.set_cons_succ]
          refine wpAnyH_take (i := 7) (v := ?_) (by simp only [List.getElem?_toArray, List.getElem?_cons_succ, List.getElem?_cons_zero]; rfl) (by kernel_rfl) (by kernel_rfl) (by kernel_rfl) (by exact fun _ _ _ h => h) (Or.inl ⟨by rfl, ?_⟩) (by assumption) ?_
          rotate_left
          · intro w' hSw; obtain ⟨e0, e1, e2, e3, e4, e5, e6, e7⟩ := hSw
            go_simp; try with_reducible rfl
          try simp only [Act.put, List.setIfInBounds_toArray, List.set_cons_zero, List.set_cons_succ]
          refine wpAnyH_take (i := 8) (v := ?_) (by simp only [List.getElem?_toArray, List.getElem?_cons_succ, List.getElem?_cons_zero]; rfl) (by kernel_rfl) (by kernel_rfl) (by kernel_rfl) (by exact fun _ _ _ h => h) (Or.inl ⟨by rfl, ?_⟩) (by assumption) ?_
          rotate_left
          · intro w' hSw; obtain ⟨e0, e1, e2, e3, e4, e5, e6, e7⟩ := hSw
            go_simp; try with_reducible rfl
          try simp only [Act.put, List.setIfInBounds_toArray, List.set_cons_zero, List.set_cons_succ]
          refine wpAnyH_take (i := 9) (v := ?_) (by simp only [List.getElem?_toArray, List.getElem?_cons_succ, List.getElem?_cons_zero]; rfl) (by kernel_rfl) (by kernel_rfl) (by kernel_rfl) (by exact fun _ _ _ h => h) (Or.inl ⟨by rfl, ?_⟩) (by assumption) ?_
          rotate_left
          · intro w' hSw; obtain ⟨e0, e1, e2, e3, e4, e5, e6, e7⟩ := hSw
            go_simp; try with_reducible rfl
          try simp only [Act.put, List.setIfInBounds_toArray, List.set_cons_zero, List.set_cons_succ]
          refine wpAnyH_take (i := 10) (v := ?_) (by simp only [List.getElem?_toArray, List.getElem?_cons_succ, List.getElem?_cons_zero]; rfl) (by kernel_rfl) (by kernel_rfl) (by kernel_rfl) (by exact fun _ _ _ h => h) (Or.inl ⟨by rfl, ?_⟩) (by assumption) ?_
          rotate_left
          · intro w' hSw; obtain ⟨e0, e1, e2, e3, e4, e5, e6, e7⟩ := hSw
            go_simp; try with_reducible rfl
          try simp only [Act.put, List.setIfInBounds_toArray, List.set_cons_zero, List.set_cons_succ]
          refine wpAnyH_take (i := 11) (v := ?_) (by simp only [List.getElem?_toArray, List.getElem?_cons_succ, List.getElem?_cons_zero]; rfl) (by kernel_rfl) (by kernel_rfl) (by kernel_rfl) (by exact fun _ _ _ h => h) (Or.inl ⟨by rfl, ?_⟩) (by assumption) ?_
          rotate_left
          · intro w' hSw; obtain ⟨e0, e1, e2, e3, e4, e5, e6, e7⟩ := hSw
            go_simp; try with_reducible rfl
          try simp only [Act.put, List.setIfInBounds_toArray, List.set_cons_zero, List.set_cons_succ]
          refine wpAnyH_take (i := 12) (v := ?_) (by simp only [List.getElem?_toArray, List.getElem?_cons_succ, List.getElem?_cons_zero]; rfl) (by kernel_rfl) (by kernel_rfl) (by kernel_rfl) (by exact fun _ _ _ h => h) (Or.inl ⟨by rfl, ?_⟩) (by assumption) ?_
          rotate_left
          · intro w' hSw; obtain ⟨e0, e1, e2, e3, e4, e5, e6, e7⟩ := hSw
            go_simp; try with_reducible rfl
          try simp only [Act.put, List.setIfInBounds_toArray, List.set_cons_zero, List.set_cons_succ]
          refine wpAnyH_ready (rs := [6]) (by kernel_rfl) (by simp) ?_
          refine AllReadyH.cons (by simp only [List.getElem?_toArray, List.getElem?_cons_succ, List.getElem?_cons_zero]; rfl) (fun K hK => ?_) AllReadyH.nil
          go_simp
          go_at_call 110
          refine (HP1.out _ (HBS.out.drew)).mono ?_
          rintro e wP ⟨rfl, hb⟩
          have rb : Below wS.heap.size wS wP := (Below.refl _ _).drew.trans hb
          have hTP : wP.cell? ⟨wo.heap.size, 0, none⟩ = some (.string ln.name) ∧ wP.cell? ⟨wo.heap.size, 1, none⟩ = some (.slice (some ⟨sb, so, none⟩) ln.stops.length s1) ∧ wP.cell? ⟨wo.heap.size, 2, none⟩ = some (.slice r0 ln.runs.length r1) ∧ wP.cell? ⟨g, go + k * 5 + 1, none⟩ = some (.int .i64 l.frm) ∧ wP.cell? ⟨g, go + k * 5 + 2, none⟩ = some (.int .i64 l.dst) ∧ wP.cell? ⟨w.heap.size, 0, none⟩ = some (.slice a t.net.stops.length c) ∧ wP.cell? ⟨w.heap.size, 1, none⟩ = some (.slice a' t.net.lines.length c') ∧ wP.cell? ⟨w.heap.size, 2, none⟩ = some (.slice b t.trips.length d) := ⟨bkeep rb hTS.1, bkeep rb hTS.2.1, bkeep rb hTS.2.2.1, bkeep rb hTS.2.2.2.1, bkeep rb hTS.2.2.2.2.1, bkeep rb hTS.2.2.2.2.2.1, bkeep rb hTS.2.2.2.2.2.2.1, bkeep rb hTS.2.2.2.2.2.2.2⟩
          have HOP := Lib.hid (own_later HOS.out rb)
          have HBP : Hid (Below w.heap.size w wP) := HBS.out.trans (rb.mono HBS.out.size)
          have hzP : w.heap.size < wP.heap.size := by have := rb.size; have := hzS; omega
          clear hb rb
          go_wp2_with fail
          refine hK.out _ _ hTP (fun hH6 => ?_)
          clear hK K
          try simp only [Act.put, List.setIfInBounds_toArray, List.set_cons_zero, List.set_cons_succ]
          refine wpAnyH_ready (rs := [13]) (by kernel_rfl) (by simp) ?_
          refine AllReadyH.cons (by simp only [List.getElem?_toArray, List.getElem?_cons_succ, List.getElem?_cons_zero]; rfl) (fun K hK => ?_) AllReadyH.nil
          go_simp
          go_at_call 110
          refine (HP2.out _ (HBP.out)).mono ?_
          rintro e wQ ⟨rfl, hb⟩
          have rb : Below wP.heap.size wP wQ := hb
          have hTQ : wQ.cell? ⟨wo.heap.size, 0, none⟩ = some (.string ln.name) ∧ wQ.cell? ⟨wo.heap.size, 1, none⟩ = some (.slice (some ⟨sb, so, none⟩) ln.stops.length s1) ∧ wQ.cell? ⟨wo.heap.size, 2, none⟩ = some (.slice r0 ln.runs.length r1) ∧ wQ.cell? ⟨g, go + k * 5 + 1, none⟩ = some (.int .i64 l.frm) ∧ wQ.cell? ⟨g, go + k * 5 + 2, none⟩ = some (.int .i64 l.dst) ∧ wQ.cell? ⟨w.heap.size, 0, none⟩ = some (.slice a t.net.stops.length c) ∧ wQ.cell? ⟨w.heap.size, 1, none⟩ = some (.slice a' t.net.lines.length c') ∧ wQ.cell? ⟨w.heap.size, 2, none⟩ = some (.slice b t.trips.length d) := ⟨bkeep rb hTP.1, bkeep rb hTP.2.1, bkeep rb hTP.2.2.1, bkeep rb hTP.2.2.2.1, bkeep rb hTP.2.2.2.2.1, bkeep rb hTP.2.2.2.2.2.1, bkeep rb hTP.2.2.2.2.2.2.1, bkeep rb hTP.2.2.2.2.2.2.2⟩
          have HOQ := Lib.hid (own_later HOP.out rb)
          have HBQ : Hid (Below w.heap.size w wQ) := HBP.out.trans (rb.mono HBP.out.size)
          have hzQ : w.heap.size < wQ.heap.size := by have := rb.size; have := hzP; omega
          clear hb rb
          go_wp2_with fail
          refine hK.out _ _ hTQ (fun hH13 => ?_)
          clear hK K
          try simp only [Act.put, List.setIfInBounds_toArray, List.set_cons_zero, List.set_cons_succ]
          refine wpAnyH_take (i := 14) (v := ?_) (by simp only [List.getElem?_toArray, List.getElem?_cons_succ, List.getElem?_cons_zero]; rfl) (by kernel_rfl) (by kernel_rfl) (by kernel_rfl) (by exact fun _ _ _ h => h) (Or.inl ⟨by rfl, ?_⟩) (by assumption) ?_
          rotate_left
          · intro w' hSw; obtain ⟨e0, e1, e2, e3, e4, e5, e6, e7⟩ := hSw
            go_simp; try with_reducible rfl
          try simp only [Act.put, List.setIfInBounds_toArray, List.set_cons_zero, List.set_cons_succ]
          refine wpAnyH_take (i := 15) (v := ?_) (by simp only [List.getElem?_toArray, List.getElem?_cons_succ, List.getElem?_cons_zero]; rfl) (by kernel_rfl) (by kernel_rfl) (by kernel_rfl) (by exact fun _ _ _ h => h) (Or.inl ⟨by rfl, ?_⟩) (by assumption) ?_
          rotate_left
          · intro w' hSw; obtain ⟨e0, e1, e2, e3, e4, e5, e6, e7⟩ := hSw
            go_simp; try with_reducible rfl
          try simp only [Act.put, List.setIfInBounds_toArray, List.set_cons_zero, List.set_cons_succ]
          refine wpAnyH_done (by kernel_rfl) ?_ _
          obtain ⟨X0, X1, X2, -, -, b0, b1, b2⟩ := hTQ
          obtain ⟨_, _, he, -, hrc⟩ := rowI_at (hrs.below rfl HBQ.out) (by omega)
          simp at he
          obtain ⟨rfl, rfl⟩ := he
          have hA0 := hrc A (by omega)
          rw [hAg] at hA0
          have hdl : (ln.stops.drop (A + 1)).length = ln.stops.length - (A + 1) := List.length_drop
          have hyl : ((ln.stops.drop (A + 1)).take (B - A)).length = B - A := by rw [List.length_take, hdl]; omega
          have hwa : IntKind.i64.wrap ((A : Int) + 1) = (A : Int) + 1 := IntWalk.i64_in _ (by omega)
          have hwb : IntKind.i64.wrap ((B : Int) + 1) = (B : Int) + 1 := IntWalk.i64_in _ (by omega)
          have hta : ((A : Int) + 1).toNat = A + 1 := by omega
          have htb : ((B : Int) + 1).toNat = B + 1 := by omega
          have hm0 : (0 : Int) ≤ (A : Int) + 1 := by omega
          have hm1 : (A : Int) + 1 ≤ (B : Int) + 1 := by omega
          have hm2 : (B : Int) + 1 ≤ (s1 : Int) := by omega
          have hm3 : (0 : Int) ≤ (A : Int) := by omega
          have hm4 : (A : Int) < (ln.stops.length : Int) := by omega
          have hms : ¬ s1 = A + 1 := by omega
          have hms2 : ¬ s1 - (A + 1) = 0 := by omega
          clear hrc
          by_cases hk0 : k = 0
          · have hkb : ((k : Int) == 0) = true := by simp [hk0]
            have HF1 : Hid (spL t cs f0 (k + 1) = (fs ++ [l.frm]) ++ ((ln.stops.drop (A + 1)).take (B - A))) := by
              show _ = _
              rw [← Hfs.out, HFr.out hk0, spL_succ, hk0]
              have := HSg.out
              rw [hk0] at this
              show [f0] ++ svF t cs 1 = _
              rw [this]; rfl
            have hba9 : Below wQ.heap.size wQ (wQ.alloc (.cells #[.int .i64 l.frm] 3)) := (Below.refl _ _).alloc (Nat.le_refl _) _
            have hy1 : RowAt (wQ.alloc (.cells #[.int .i64 l.frm] 3)) (.slice (some ⟨wQ.heap.size, 0, none⟩) 1 1) (ints [l.frm]) := rowAt_own (B := 0) (n := 1) (e := 3) (by
              have h := World.ownsRow_lit (base := 0) (e := 3) (size := 1) wQ #[.int .i64 l.frm] 1 (Nat.zero_le _) (by decide) (by simp)
              simpa [ints] using h)
            have hOq := own_later HOQ.out hba9
            obtain ⟨v9, w9, hrun9, hown9, hgr9, hloc9⟩ := run_append_ints _ (w.heap.size + 1) _ _ _ hOq wQ.heap.size 0 1 [l.frm] hy1 (by have := HFl.out; simp only [List.length_singleton]; omega) (by have := hzQ; simp; omega)
            simp only [List.length_singleton] at hrun9 hown9
            have hb9 : Below (w.heap.size + 1) (wQ.alloc (.cells #[.int .i64 l.frm] 3)) w9 := ⟨hgr9.os, hgr9.tape, hgr9.output, hgr9.size, fun q hq => hgr9.block q (by have := hzQ; simp; omega) (fun e => by have := (HOQ.out.lt q e.symm).1; omega)⟩
            have HB9 : Hid (Below w.heap.size w w9) := (HBQ.out.trans (hba9.mono HBQ.out.size)).trans (hb9.mono (Nat.le_succ _))
            have HO9 : Hid (w9.ownsRow (w.heap.size + 1) 3 1 v9 (fs ++ [l.frm]).length (ints (fs ++ [l.frm]))) := by
              show World.ownsRow _ _ _ _ _ _ _
              rw [List.length_append]; exact hown9
            have d0 := (hb9.cell (show w.heap.size < w.heap.size + 1 by omega)).trans (acell b0 _)
            have d1 := (hb9.cell (show w.heap.size < w.heap.size + 1 by omega)).trans (acell b1 _)
            have d2 := (hb9.cell (show w.heap.size < w.heap.size + 1 by omega)).trans (acell b2 _)
            have X19 : w9.cell? ⟨wo.heap.size, 1, none⟩ = some (.slice (some ⟨_, _, none⟩) ln.stops.length s1) := hgr9.cell (acell X1 _) (fun e => by have h := (HOwn.out.lt _ (by first | exact e | exact e.symm)).2; dsimp only at h; omega)
            have hz9 : w.heap.size < w9.heap.size := by have := hb9.size; simp at this; have := hzQ; omega
            clear hba9 hy1 hOq hown9 hgr9 hloc9 hb9
            have hdr := rowAt_dropI (k := A + 1) (hrs.below rfl HB9.out) (by omega)
            have hdr2 := rowAt_takeI (k := B - A) (by rw [hdl]; exact hdr) (by rw [hdl]; omega)
            obtain ⟨v8, w8, hrun, hown8, hgr8, hloc8⟩ := run_append_ints w9 (w.heap.size + 1) _ v9 _ HO9.out sb (so + (A + 1)) (s1 - (A + 1)) ((ln.stops.drop (A + 1)).take (B - A)) (by rw [hyl]; exact hdr2) (by rw [hyl]; have := HFl.out; (try simp only [List.length_append, List.length_singleton, List.length_nil]); omega) (by have := hz9; omega)
            rw [hyl] at hrun
            have hb8 : Below (w.heap.size + 1) w9 w8 := ⟨hgr8.os, hgr8.tape, hgr8.output, hgr8.size, fun q hq => hgr8.block q (by have := hz9; omega) (fun e => by have := (HO9.out.lt q e.symm).1; omega)⟩
            have HB8 : Hid (Below w.heap.size w w8) := HB9.out.trans (hb8.mono (Nat.le_succ _))
            have HO8 : Hid (w8.ownsRow (w.heap.size + 1) 3 1 v8 (spL t cs f0 (k + 1)).length (ints (spL t cs f0 (k + 1)))) := by
              show World.ownsRow _ _ _ _ _ _ _
              rw [HF1.out, List.length_append]; exact hown8
            have q0 := (hb8.cell (show w.heap.size < w.heap.size + 1 by omega)).trans d0
            have q1 := (hb8.cell (show w.heap.size < w.heap.size + 1 by omega)).trans d1
            have q2 := (hb8.cell (show w.heap.size < w.heap.size + 1 by omega)).trans d2
            have hz8 : w.heap.size < w8.heap.size := by have := hb8.size; have := HB8.out.size; omega
            clear hown8 hgr8 hloc8 hdr hdr2 hb8
            go_wp2_with (at_builtin; first | refine wpList_append_run rfl (.tmp 57) (.tmp 63) 45 rfl rfl rfl hrun9 ?_ | refine wpList_append_run rfl (.tmp 65) (.tmp 72) 45 rfl rfl rfl hrun ?_)
            go_roundw
            case rel => exact ⟨k + 1, by omega, by go_num, HO8, q0, q1, q2, HB8, hz8⟩
            case measure => simp [RowKit.intOf]; omega
          · have hkb : ((k : Int) == 0) = false := by simp; omega
            have HF1 : Hid (spL t cs f0 (k + 1) = fs ++ ((ln.stops.drop (A + 1)).take (B - A))) := by
              show _ = _
              rw [← Hfs.out, spL_succ, HSg.out]
              unfold spL; rw [if_neg hk0, List.append_assoc]
            have hdr := rowAt_dropI (k := A + 1) (hrs.below rfl HBQ.out) (by omega)
            have hdr2 := rowAt_takeI (k := B - A) (by rw [hdl]; exact hdr) (by rw [hdl]; omega)
            obtain ⟨v8, w8, hrun, hown8, hgr8, hloc8⟩ := run_append_ints wQ (w.heap.size + 1) _ _ _ HOQ.out sb (so + (A + 1)) (s1 - (A + 1)) ((ln.stops.drop (A + 1)).take (B - A)) (by rw [hyl]; exact hdr2) (by rw [hyl]; have := HFl.out; (try simp only [List.length_append, List.length_singleton, List.length_nil]); omega) (by have := hzQ; omega)
            rw [hyl] at hrun
            have hb8 : Below (w.heap.size + 1) wQ w8 := ⟨hgr8.os, hgr8.tape, hgr8.output, hgr8.size, fun q hq => hgr8.block q (by have := hzQ; omega) (fun e => by have := (HOQ.out.lt q e.symm).1; omega)⟩
            have HB8 : Hid (Below w.heap.size w w8) := HBQ.out.trans (hb8.mono (Nat.le_succ _))
            have HO8 : Hid (w8.ownsRow (w.heap.size + 1) 3 1 v8 (spL t cs f0 (k + 1)).length (ints (spL t cs f0 (k + 1)))) := by
              show World.ownsRow _ _ _ _ _ _ _
              rw [HF1.out, List.length_append]; exact hown8
            have q0 := (hb8.cell (show w.heap.size < w.heap.size + 1 by omega)).trans b0
            have q1 := (hb8.cell (show w.heap.size < w.heap.size + 1 by omega)).trans b1
            have q2 := (hb8.cell (show w.heap.size < w.heap.size + 1 by omega)).trans b2
            have hz8 : w.heap.size < w8.heap.size := by have := hb8.size; have := HB8.out.size; omega
            clear hown8 hgr8 hloc8 hdr hdr2 hb8
            go_wp2_with (at_builtin; refine wpList_append_run rfl (.tmp 65) (.tmp 72) 45 rfl rfl rfl hrun ?_)
            go_roundw
            case rel => exact ⟨k + 1, by omega, by go_num, HO8, q0, q1, q2, HB8, hz8⟩
            case measure => simp [RowKit.intOf]; omega
      · obtain rfl : k = cs.length := by omega
        have hk2 : ¬ (cs.length : Int) < (cs.length : Int) := by omega
        go_wp2_with fail
        go_ret2
        exact ⟨⟨_, rfl, own_base HOwn.out (by omega)⟩, HB.out⟩
theorem bothServedStops (t : TTD) (hf : TTFits t) (hs : TTSmall t) (ch : Int) (w1 : (Lit.int .i64 ch).wf = true) (cs : List LegD) (hfl : LegsFit cs) (hsl : LegsSmall cs) : ∃ (r : List Int) (b : Bool), IntsSmall r ∧ ∀ (v lv : Value) (w : World), TTAt w v t → LegsAt w lv cs →
    Calls Try.prog 42 #[v, .int .i64 ch, lv] w (fun e w' => ∃ v', e = .returned (.tuple #[v', .bool b]) ∧ IntsIn w.heap.size w'.heap.size w' v' r ∧ Below w.heap.size w w') ∧
    Calls Try.prog 43 #[v, .int .i64 ch, lv] w (fun e w' => ∃ v', e = .returned (.tuple #[v', .bool b]) ∧ IntsIn w.heap.size w'.heap.size w' v' r ∧ Below w.heap.size w w') :=
  ⟨_, _, svAns_small, fun v lv w h hl => ⟨(specSV_any v lv t ch cs w h hl hf hs hsl).mono fun _ _ => st_in, (implSV_any v lv t ch cs w h hl hf hs hsl hfl).mono fun _ _ => st_in⟩⟩
end Go.Proofs.Ytniankcjgcackaa

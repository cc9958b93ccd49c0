import Derived.Test.YtehpeifaknbcnaaMk43
import Derived.Test.YtehpeifaknbcnaaSpanOf
import Derived.Test.YtehpeifaknbcnaaMk45
import Derived.Test.YtehpeifaknbcnaaTripX
import Derived.Deep.AppendLies
import Derived.Deep.Upon
import Derived.OrdersHeld
namespace Go.Proofs.Ytehpeifaknbcnaa
open Go.RowKit
set_option linter.unusedVariables false
set_option linter.unusedSimpArgs false

theorem spansT_len (t : TTD) (bs : List (List Int)) : (spansT t bs).length = bs.length := by simp [spansT]
theorem spansT_take {t : TTD} {bs : List (List Int)} {i : Nat} (h : i < bs.length) : (spansT t bs).take (i + 1) = (spansT t bs).take i ++ [spanB1 t bs[i]] := by
  rw [List.take_succ_eq_append_getElem (by rw [spansT_len]; exact h)]
  simp [spansT]
noncomputable def bsA (t : TTD) (f : FleetD) (bs : List (List Int)) : List SpanD := if dmOk t f bs = true then spansT t bs else []

def SpAns (B : Nat) (r : List SpanD) (b : Bool) (e : Ending) (w' : World) : Prop := ∃ a c, e = .returned (.tuple #[.slice a r.length c, .bool b]) ∧ SpansIn B w'.heap.size w' (.slice a r.length c) r
set_option maxRecDepth 100000 in
theorem run_append_span1 (w : World) (B n : Nat) (v : Value) (xs : List SpanD) (hown : w.ownsRow B 104 2 v n (spanC xs)) (g : Nat) (s : SpanD) (hc : ∀ j u, (spanC [s])[j]? = some u → w.cell? ((⟨g, 0, none⟩ : Addr).add j) = some u) (hn : n + 1 ≤ 1048577) (hB : B ≤ w.heap.size) :
    ∃ v' w', (Builtin.append_ #[63, 63] 63 #[v, .slice (some ⟨g, 0, none⟩) 1 1]).run Try.prog w = .ok v' w' ∧ w'.ownsRow B 104 2 v' (n + 1) (spanC (xs ++ [s])) ∧ w.grownBy w' v.ownBlock := by
  obtain ⟨i, hi, hz0, hz1, hz2⟩ := info_parts infoSpan
  obtain ⟨v', w', h1, h2, h3, -, h5⟩ := run_append_own_at (P := Try.prog) (w := w) B 63 63 104 i (.agg #[.int .i64 0, .int .i64 0]) 2 16 Try.underlying63 hi hz0 hz1 hz2 rfl (by decide) v n (spanC xs) hown ⟨g, 0, none⟩ 1 1 (spanC [s]) rfl hc (spanC_cells _) (by unfold maxLen; omega) (by omega) hB
  exact ⟨v', w', h1, by rw [spanC_append]; exact h2, h3⟩

set_option maxRecDepth 100000 in
set_option maxHeartbeats 8000000 in
theorem implSpans_any (tv fv bv : Value) (t : TTD) (f : FleetD) (bs : List (List Int)) (w : World) (hr : TTAt w tv t) (hf : TTFits t) (hg : FleetAt w fv f) (hs : GrpsSmall f.dead) (hb : GrpsAt w bv bs) (hbs : GrpsSmall bs) :
    Calls Try.prog 34 #[tv, fv, bv] w fun e w' => SpAns w.heap.size (bsA t f bs) (dmOk t f bs) e w' ∧ Below w.heap.size w w' := by
  have HV := Lib.hid (fun W (h : Below w.heap.size w W) => implBlocks_any tv fv bv t f bs W (hr.below rfl h) hf (hg.below rfl h) hs (hb.below rfl h) hbs)
  have HT := Lib.hid (fun (hA : TTGood t) id (h1 : foundT t id = true) W (h : Below w.heap.size w W) => tripFnd_any tv t id W (hr.below rfl h) hA h1)
  have HAt := Lib.hid hr
  have HGr := Lib.hid hb
  have hsz := hbs.1
  obtain ⟨c0, d0, c1, d1, c2, d2, rfl, hn, -⟩ := tt_open hr
  have HDG := Lib.hid (fun (x y : TripD) (hA : TTGood t) (h2 : CanRun t.net y) W (h : Below w.heap.size w W) => tripsSpan_any _ t.net x y W (hn.below rfl h) hA.1 h2)
  obtain ⟨fa, fc, rfl, -⟩ := fleet_open hg
  obtain ⟨ba, bc, rfl⟩ := IntSS_open hb
  obtain ⟨i0, hi0, iz0, iz1, iz2⟩ := info_parts infoSpan
  have HSm : Hid (∀ i (h : i < bs.length), bs[i].length ≤ 1048576) := fun i h => by
    have e1 := preL_succ h
    have e2 := preL_le (xss := bs) (i := i + 1) (by omega)
    have := hbs.2
    omega
  clear hr hg hf hs hb hbs hn
  unfold bsA dmOk
  have HGd : Hid ((askedB t f && blksB t f bs) = true → AskedGood t f ∧ AllFnd t bs) := fun h1 => by
    have h2 := Bool.and_eq_true_iff.1 h1
    exact ⟨askedB_iff.1 h2.1, (blksB_iff.1 h2.2).fnd⟩
  generalize (askedB t f && blksB t f bs) = b1 at *
  have HM := Lib.hid (fun W1 : World => World.ownsRow_made (base := w.heap.size + 2) (size := 2) (e := 104) W1 #[] 0)
  cases b1
  · simp only [Bool.false_eq_true, if_false]
    have HM0 : Hid ((((w.alloc (.cells #[.slice c0 t.net.stops.length d0, .slice c1 t.net.lines.length d1, .slice c2 t.trips.length d2] 49)).alloc (.cells #[.slice fa f.dead.length fc, .int .i64 f.turn] 36)).alloc (.cells #[] 104)).ownsRow (w.heap.size + 2) 104 2 (.slice (some ⟨w.heap.size + 1 + 1, 0, none⟩) 0 0) 0 (spanC [])) := by
      have := HM.out ((w.alloc (.cells #[.slice c0 t.net.stops.length d0, .slice c1 t.net.lines.length d1, .slice c2 t.trips.length d2] 49)).alloc (.cells #[.slice fa f.dead.length fc, .int .i64 f.turn] 36)) (by simp) (by decide) rfl
      show World.ownsRow _ _ _ _ _ _ _
      simpa [spanC] using this
    go_enter Try.func34, Try.ntmps34
    go_wp2_with fail
    go_at_call 27
    refine (HV.out _ ((((Below.refl _ _).alloc (Nat.le_refl _) _).alloc (by simp) _).alloc (by simp; omega) _)).mono ?_
    rintro e w1 ⟨rfl, hb1⟩
    have HB1 : Hid (Below w.heap.size w w1) := ((((Below.refl _ _).alloc (Nat.le_refl _) _).alloc (by simp) _).alloc (by simp; omega) _).trans (hb1.mono (by simp; omega))
    have HO1 := Lib.hid (own_later HM0.out hb1)
    clear hb1 HM0
    go_wp2_with fail
    go_ret2
    exact ⟨⟨_, _, rfl, SpansIn.mk (own_base HO1.out (Nat.le_add_right _ 2))⟩, HB1.out⟩
  · simp only [if_true]
    obtain ⟨hA, hFn⟩ := HGd.out rfl
    have HG := Lib.hid hA
    have HFn := Lib.hid hFn
    have HM0 : Hid ((((w.alloc (.cells #[.slice c0 t.net.stops.length d0, .slice c1 t.net.lines.length d1, .slice c2 t.trips.length d2] 49)).alloc (.cells #[.slice fa f.dead.length fc, .int .i64 f.turn] 36)).alloc (.cells #[] 104)).ownsRow (w.heap.size + 2) 104 2 (.slice (some ⟨w.heap.size + 1 + 1, 0, none⟩) 0 0) 0 (spanC ((spansT t bs).take 0))) := by
      have := HM.out ((w.alloc (.cells #[.slice c0 t.net.stops.length d0, .slice c1 t.net.lines.length d1, .slice c2 t.trips.length d2] 49)).alloc (.cells #[.slice fa f.dead.length fc, .int .i64 f.turn] 36)) (by simp) (by decide) rfl
      show World.ownsRow _ _ _ _ _ _ _
      simpa [spanC] using this
    clear hA hFn HGd HM
    go_enter Try.func34, Try.ntmps34
    go_wp2_with fail
    go_at_call 27
    refine (HV.out _ ((((Below.refl _ _).alloc (Nat.le_refl _) _).alloc (by simp) _).alloc (by simp; omega) _)).mono ?_
    rintro e w1 ⟨rfl, hb1⟩
    have HB1 : Hid (Below w.heap.size w w1 ∧ w.heap.size + 2 ≤ w1.heap.size) := ⟨((((Below.refl _ _).alloc (Nat.le_refl _) _).alloc (by simp) _).alloc (by simp; omega) _).trans (hb1.mono (by simp; omega)), by have := hb1.size; simp at this; omega⟩
    have HO1 := Lib.hid (own_later HM0.out hb1)
    have p0 : w1.cell? ⟨w.heap.size, 0, none⟩ = some (.slice c0 t.net.stops.length d0) := bkeep hb1 (by go_simp)
    have p1 : w1.cell? ⟨w.heap.size, 1, none⟩ = some (.slice c1 t.net.lines.length d1) := bkeep hb1 (by go_simp)
    have p2 : w1.cell? ⟨w.heap.size, 2, none⟩ = some (.slice c2 t.trips.length d2) := bkeep hb1 (by go_simp)
    have q0 : w1.cell? ⟨w.heap.size + 1, 0, none⟩ = some (.slice fa f.dead.length fc) := bkeep hb1 (by go_simp)
    have q1 : w1.cell? ⟨w.heap.size + 1, 1, none⟩ = some (.int .i64 f.turn) := bkeep hb1 (by go_simp)
    clear hb1 HM0
    go_wp2_with fail
    go_loopw [8, 24] (fun sv q wr => ∃ (i sc : Nat) (sa : Option Addr), i ≤ bs.length ∧ q = .int .i64 i ∧ sv = .slice sa i sc ∧ Hid (wr.ownsRow (w.heap.size + 2) 104 2 (.slice sa i sc) i (spanC ((spansT t bs).take i))) ∧ wr.cell? ⟨w.heap.size, 0, none⟩ = some (.slice c0 t.net.stops.length d0) ∧ wr.cell? ⟨w.heap.size, 1, none⟩ = some (.slice c1 t.net.lines.length d1) ∧ wr.cell? ⟨w.heap.size, 2, none⟩ = some (.slice c2 t.trips.length d2) ∧ wr.cell? ⟨w.heap.size + 1, 0, none⟩ = some (.slice fa f.dead.length fc) ∧ wr.cell? ⟨w.heap.size + 1, 1, none⟩ = some (.int .i64 f.turn) ∧ Hid (Below w.heap.size w wr ∧ w.heap.size + 2 ≤ wr.heap.size))
      (fun _ q _ => bs.length - (RowKit.intOf q).toNat)
    case atStart => exact ⟨0, 0, _, Nat.zero_le _, rfl, rfl, HO1, p0, p1, p2, q0, q1, HB1⟩
    case round =>
      clear p0 p1 p2 q0 q1 HB1 HO1
      obtain ⟨i, sc, sa, hi, rfl, rfl, HOwr, p0, p1, p2, q0, q1, HB⟩ := hrel
      by_cases hlt : i < bs.length
      · obtain ⟨vb, vo, rfl, hC⟩ := grp_cells HGr.out (by omega)
        have hpos := (HFn.out i hlt).1
        obtain ⟨pb, po, pc, hy⟩ := (hC i hlt).2 hpos
        obtain ⟨m, hm⟩ : ∃ m, bs[i].length = m + 1 := ⟨bs[i].length - 1, by omega⟩
        have hml : m < bs[i].length := by omega
        obtain ⟨y, hz⟩ := hy _ HB.out.1
        have zP := hz 0 hpos
        have zK := hz m hml
        simp only [Nat.add_zero] at zP
        rw [hm] at y
        have hi1 : (i : Int) < (bs.length : Int) := by omega
        have hrs := HSm.out i hlt
        rw [hm] at hrs
        have hwm : IntKind.i64.wrap (m : Int) = (m : Int) := IntWalk.i64_in _ (by omega)
        have hkm : ((m + 1 : Nat) : Int) - 1 = (m : Int) := by omega
        have hm1 : (m : Int) < ((m + 1 : Nat) : Int) := by omega
        have hm0 : (0 : Int) < ((m + 1 : Nat) : Int) := by omega
        have hm5 : (m : Int) < (m : Int) + 1 := by omega
        have hm6 : (0 : Int) < (m : Int) + 1 := by omega
        have hf1 := (HFn.out i hlt).2 0 hpos
        have hf2 := (HFn.out i hlt).2 m hml
        have hTk : (spansT t bs).take (i + 1) = (spansT t bs).take i ++ [((tripOf t bs[i][0]).start, arrF t.net (tripOf t (bs[i][m]'hml)))] := by
          rw [spansT_take hlt]
          have e : spanB1 t bs[i] = ((tripOf t bs[i][0]).start, arrF t.net (tripOf t (bs[i][m]'hml))) := by
            unfold spanB1
            rw [hd_at hpos, show bs[i].length - 1 = m by omega]
            simp [hml]
          rw [e]
        have HT1 := Lib.hid (HT.out HG.out.1 _ hf1)
        have HT2 := Lib.hid (HT.out HG.out.1 _ hf2)
        have HD := Lib.hid (HDG.out (tripOf t bs[i][0]) (tripOf t (bs[i][m]'hml)) HG.out.1 (can_of HG.out.1 hf2))
        have HTk := Lib.hid hTk
        clear hf1 hf2 hy hz hC hTk hm
        generalize bs[i][0] = idp at *
        generalize (bs[i][m]'hml) = id at *
        generalize tripOf t idp = x at *
        generalize tripOf t id = y9 at *
        generalize hAe : arrF t.net y9 = A at *
        clear hAe
        obtain ⟨xi, xl, xs⟩ := x
        obtain ⟨yi, yl, ys⟩ := y9
        unfold tripV at HT1 HT2 HD
        simp only at HT1 HT2 HD HTk
        go_upto_region 7 with fail
        refine wp_region_held_drew (S := (fun w' => w'.cell? ⟨w.heap.size, 0, none⟩ = some (.slice c0 t.net.stops.length d0) ∧ w'.cell? ⟨w.heap.size, 1, none⟩ = some (.slice c1 t.net.lines.length d1) ∧ w'.cell? ⟨w.heap.size, 2, none⟩ = some (.slice c2 t.trips.length d2) ∧ w'.cell? ⟨w.heap.size + 1, 0, none⟩ = some (.slice fa f.dead.length fc) ∧ w'.cell? ⟨w.heap.size + 1, 1, none⟩ = some (.int .i64 f.turn) ∧ w'.cell? ⟨pb, po, none⟩ = some (.int .i64 idp) ∧ w'.cell? ⟨pb, po + m, none⟩ = some (.int .i64 id))) (by kernel_rfl) ?_ (fun hHeld => ?_)
        · exact ⟨p0, p1, p2, q0, q1, zP, zK⟩
        refine wpAnyH_take (i := 0) (v := ?_) (by simp only [List.getElem?_toArray, List.getElem?_cons_zero]; rfl) (by kernel_rfl) (by kernel_rfl) (by kernel_rfl) (by exact fun _ _ _ h => h) (Or.inl ⟨by rfl, ?_⟩) (by assumption) ?_
        rotate_left
        · intro w' hSw; obtain ⟨e0, e1, e2, e3, e4, e5, e6⟩ := hSw
          go_simp; try with_reducible rfl
        try simp only [Act.put, List.setIfInBounds_toArray, List.set_cons_zero, List.set_cons_succ]
        refine wpAnyH_take (i := 1) (v := ?_) (by simp only [List.getElem?_toArray, List.getElem?_cons_succ, List.getElem?_cons_zero]; rfl) (by kernel_rfl) (by kernel_rfl) (by kernel_rfl) (by exact fun _ _ _ h => h) (Or.inl ⟨by rfl, ?_⟩) (by assumption) ?_
        rotate_left
        · intro w' hSw; obtain ⟨e0, e1, e2, e3, e4, e5, e6⟩ := hSw
          go_simp; try with_reducible rfl
        try simp only [Act.put, List.setIfInBounds_toArray, List.set_cons_zero, List.set_cons_succ]
        refine wpAnyH_take (i := 2) (v := ?_) (by simp only [List.getElem?_toArray, List.getElem?_cons_succ, List.getElem?_cons_zero]; rfl) (by kernel_rfl) (by kernel_rfl) (by kernel_rfl) (by exact fun _ _ _ h => h) (Or.inl ⟨by rfl, ?_⟩) (by assumption) ?_
        rotate_left
        · intro w' hSw; obtain ⟨e0, e1, e2, e3, e4, e5, e6⟩ := hSw
          go_simp; try with_reducible rfl
        try simp only [Act.put, List.setIfInBounds_toArray, List.set_cons_zero, List.set_cons_succ]
        refine wpAnyH_take (i := 3) (v := ?_) (by simp only [List.getElem?_toArray, List.getElem?_cons_succ, List.getElem?_cons_zero]; rfl) (by kernel_rfl) (by kernel_rfl) (by kernel_rfl) (by exact fun _ _ _ h => h) (Or.inl ⟨by rfl, ?_⟩) (by assumption) ?_
        rotate_left
        · intro w' hSw; obtain ⟨e0, e1, e2, e3, e4, e5, e6⟩ := hSw
          go_simp; try with_reducible rfl
        try simp only [Act.put, List.setIfInBounds_toArray, List.set_cons_zero, List.set_cons_succ]
        refine wpAnyH_ready (rs := [4, 8]) (by kernel_rfl) (by simp) ?_
        refine AllReadyH.cons (by simp only [List.getElem?_toArray, List.getElem?_cons_succ, List.getElem?_cons_zero]; rfl) (fun K hK => ?_) (AllReadyH.cons (by simp only [List.getElem?_toArray, List.getElem?_cons_succ, List.getElem?_cons_zero]; rfl) (fun K hK => ?_) AllReadyH.nil)
        · go_simp
          go_at_call 62
          refine (HT1.out _ (HB.out.1.drew)).mono ?_
          rintro e wua ⟨rfl, hb⟩
          have rbw : Below wr.heap.size wr wua := (Below.refl _ _).drew.trans hb
          have hS2 : wua.cell? ⟨w.heap.size, 0, none⟩ = some (.slice c0 t.net.stops.length d0) ∧ wua.cell? ⟨w.heap.size, 1, none⟩ = some (.slice c1 t.net.lines.length d1) ∧ wua.cell? ⟨w.heap.size, 2, none⟩ = some (.slice c2 t.trips.length d2) ∧ wua.cell? ⟨w.heap.size + 1, 0, none⟩ = some (.slice fa f.dead.length fc) ∧ wua.cell? ⟨w.heap.size + 1, 1, none⟩ = some (.int .i64 f.turn) ∧ wua.cell? ⟨pb, po, none⟩ = some (.int .i64 idp) ∧ wua.cell? ⟨pb, po + m, none⟩ = some (.int .i64 id) := ⟨bkeep rbw p0, bkeep rbw p1, bkeep rbw p2, bkeep rbw q0, bkeep rbw q1, bkeep rbw zP, bkeep rbw zK⟩
          have HBu1 : Hid (Below w.heap.size w wua ∧ w.heap.size + 2 ≤ wua.heap.size) := ⟨HB.out.1.trans (rbw.mono HB.out.1.size), Nat.le_trans HB.out.2 rbw.size⟩
          have HOwua := Lib.hid (own_later HOwr.out rbw)
          clear HOwr
          clear hb rbw
          go_wp2_with fail
          refine hK.out _ _ hS2 (fun hH4 => ?_)
          obtain ⟨p0, p1, p2, q0, q1, zP, zK⟩ := hS2
          clear hK K
          try simp only [Act.put, List.setIfInBounds_toArray, List.set_cons_zero, List.set_cons_succ]
          refine wpAnyH_take (i := 5) (v := ?_) (by simp only [List.getElem?_toArray, List.getElem?_cons_succ, List.getElem?_cons_zero]; rfl) (by kernel_rfl) (by kernel_rfl) (by kernel_rfl) (by exact fun _ _ _ h => h) (Or.inl ⟨by rfl, ?_⟩) (by assumption) ?_
          rotate_left
          · intro w' hSw; obtain ⟨e0, e1, e2, e3, e4, e5, e6⟩ := hSw
            go_simp; try with_reducible rfl
          try simp only [Act.put, List.setIfInBounds_toArray, List.set_cons_zero, List.set_cons_succ]
          refine wpAnyH_take (i := 6) (v := ?_) (by simp only [List.getElem?_toArray, List.getElem?_cons_succ, List.getElem?_cons_zero]; rfl) (by kernel_rfl) (by kernel_rfl) (by kernel_rfl) (by exact fun _ _ _ h => h) (Or.inl ⟨by rfl, ?_⟩) (by assumption) ?_
          rotate_left
          · intro w' hSw; obtain ⟨e0, e1, e2, e3, e4, e5, e6⟩ := hSw
            go_simp; try with_reducible rfl
          try simp only [Act.put, List.setIfInBounds_toArray, List.set_cons_zero, List.set_cons_succ]
          refine wpAnyH_take (i := 7) (v := ?_) (by simp only [List.getElem?_toArray, List.getElem?_cons_succ, List.getElem?_cons_zero]; rfl) (by kernel_rfl) (by kernel_rfl) (by kernel_rfl) (by exact fun _ _ _ h => h) (Or.inl ⟨by rfl, ?_⟩) (by assumption) ?_
          rotate_left
          · intro w' hSw; obtain ⟨e0, e1, e2, e3, e4, e5, e6⟩ := hSw
            go_simp; try with_reducible rfl
          try simp only [Act.put, List.setIfInBounds_toArray, List.set_cons_zero, List.set_cons_succ]
          refine wpAnyH_ready (rs := [8]) (by kernel_rfl) (by simp) ?_
          refine AllReadyH.cons (by simp only [List.getElem?_toArray, List.getElem?_cons_succ, List.getElem?_cons_zero]; rfl) (fun K hK => ?_) AllReadyH.nil
          go_simp
          obtain ⟨wub, hwA⟩ : ∃ wA : World, wA = (World.alloc wua (.cells #[.int .i64 0, .int .i64 0, .int .i64 0] 89)) := ⟨_, rfl⟩
          have rbw : Below wua.heap.size wua wub := by rw [hwA]; exact ((Below.refl _ _).alloc (Nat.le_refl _) _)
          have hS2 : wub.cell? ⟨w.heap.size, 0, none⟩ = some (.slice c0 t.net.stops.length d0) ∧ wub.cell? ⟨w.heap.size, 1, none⟩ = some (.slice c1 t.net.lines.length d1) ∧ wub.cell? ⟨w.heap.size, 2, none⟩ = some (.slice c2 t.trips.length d2) ∧ wub.cell? ⟨w.heap.size + 1, 0, none⟩ = some (.slice fa f.dead.length fc) ∧ wub.cell? ⟨w.heap.size + 1, 1, none⟩ = some (.int .i64 f.turn) ∧ wub.cell? ⟨pb, po, none⟩ = some (.int .i64 idp) ∧ wub.cell? ⟨pb, po + m, none⟩ = some (.int .i64 id) := ⟨bkeep rbw p0, bkeep rbw p1, bkeep rbw p2, bkeep rbw q0, bkeep rbw q1, bkeep rbw zP, bkeep rbw zK⟩
          have HBu2 : Hid (Below w.heap.size w wub ∧ w.heap.size + 2 ≤ wub.heap.size) := ⟨HBu1.out.1.trans (rbw.mono HBu1.out.1.size), Nat.le_trans HBu1.out.2 rbw.size⟩
          obtain ⟨bA, hbA⟩ : ∃ b, wua.heap.size = b := ⟨_, rfl⟩
          have HBxbA : Hid (TripBox wub bA ⟨0, 0, 0⟩) := by rw [hwA, ← hbA]; exact ⟨by show World.cell? (World.alloc wua _) _ = _; go_simp, by show World.cell? (World.alloc wua _) _ = _; go_simp, by show World.cell? (World.alloc wua _) _ = _; go_simp, fun o => by show World.frozen? (World.alloc wua _) _ = _; go_simp⟩
          have hPBbA : pb < bA := by rw [← hbA]; exact World.block_lt_of_cell? _ _ zP
          have HLbA : Hid (w.heap.size + 2 ≤ bA) := by show _ ≤ _; have := HBu1.out.2; omega
          have HRbA : Hid (∀ g, (Value.slice sa i sc).ownBlock = some g → g ≠ bA) := fun g hg => by have := (HOwua.out.lt g hg).2; omega
          have HOwub := Lib.hid (own_later HOwua.out rbw)
          clear HOwua
          rw [← hwA]
          rw [hbA]
          clear rbw hwA
          refine hK.out _ _ hS2 (fun hH8 => ?_)
          obtain ⟨p0, p1, p2, q0, q1, zP, zK⟩ := hS2
          clear hK K
          try simp only [Act.put, List.setIfInBounds_toArray, List.set_cons_zero, List.set_cons_succ]
          refine wpAnyH_ready (rs := [9]) (by kernel_rfl) (by simp) ?_
          refine AllReadyH.cons (by simp only [List.getElem?_toArray, List.getElem?_cons_succ, List.getElem?_cons_zero]; rfl) (fun K hK => ?_) AllReadyH.nil
          have hb0 := HBxbA.out.c0
          have hb1 := HBxbA.out.c1
          have hb2 := HBxbA.out.c2
          have hbf := HBxbA.out.fz
          have hbl := HLbA.out
          go_simp
          obtain ⟨wuc, hwA⟩ : ∃ wA : World, wA = (((World.setCell wub ⟨bA, 0, none⟩ (.int .i64 xi)).setCell ⟨bA, 1, none⟩ (.int .i64 xl)).setCell ⟨bA, 2, none⟩ (.int .i64 xs)) := ⟨_, rfl⟩
          have hS2 : wuc.cell? ⟨w.heap.size, 0, none⟩ = some (.slice c0 t.net.stops.length d0) ∧ wuc.cell? ⟨w.heap.size, 1, none⟩ = some (.slice c1 t.net.lines.length d1) ∧ wuc.cell? ⟨w.heap.size, 2, none⟩ = some (.slice c2 t.trips.length d2) ∧ wuc.cell? ⟨w.heap.size + 1, 0, none⟩ = some (.slice fa f.dead.length fc) ∧ wuc.cell? ⟨w.heap.size + 1, 1, none⟩ = some (.int .i64 f.turn) ∧ wuc.cell? ⟨pb, po, none⟩ = some (.int .i64 idp) ∧ wuc.cell? ⟨pb, po + m, none⟩ = some (.int .i64 id) := by rw [hwA]; exact ⟨(set3_cell (by dsimp only; omega)).trans p0, (set3_cell (by dsimp only; omega)).trans p1, (set3_cell (by dsimp only; omega)).trans p2, (set3_cell (by dsimp only; omega)).trans q0, (set3_cell (by dsimp only; omega)).trans q1, (set3_cell (by dsimp only; omega)).trans zP, (set3_cell (by dsimp only; omega)).trans zK⟩
          have HBxbAc : Hid (TripBox wuc bA ⟨xi, xl, xs⟩) := by rw [hwA]; exact HBxbA.out.set _ _ _
          have HBu3 : Hid (Below w.heap.size w wuc ∧ w.heap.size + 2 ≤ wuc.heap.size) := by rw [hwA]; exact ⟨((HBu2.out.1.setCell (p := ⟨bA, 0, none⟩) (by dsimp only; omega) _).setCell (p := ⟨bA, 1, none⟩) (by dsimp only; omega) _).setCell (p := ⟨bA, 2, none⟩) (by dsimp only; omega) _, by simpa [World.setCell] using HBu2.out.2⟩
          have HOwuc : Hid (wuc.ownsRow (w.heap.size + 2) 104 2 (.slice sa i sc) i (spanC ((spansT t bs).take i))) := by show World.ownsRow _ _ _ _ _ _ _; rw [hwA]; exact own_other (own_other (own_other HOwub.out (fun e => HRbA.out _ e rfl) _) (fun e => HRbA.out _ e rfl) _) (fun e => HRbA.out _ e rfl) _
          clear HOwub
          rw [← hwA]
          clear hwA hb0 hb1 hb2 hbf
          refine hK.out _ _ hS2 (fun hH9 => ?_)
          obtain ⟨p0, p1, p2, q0, q1, zP, zK⟩ := hS2
          clear HBxbA HBu2
          clear hK K
          try simp only [Act.put, List.setIfInBounds_toArray, List.set_cons_zero, List.set_cons_succ]
          refine wpAnyH_take (i := 10) (v := ?_) (by simp only [List.getElem?_toArray, List.getElem?_cons_succ, List.getElem?_cons_zero]; rfl) (by kernel_rfl) (by kernel_rfl) (by kernel_rfl) (by exact fun _ _ _ h => h) (Or.inl ⟨by rfl, ?_⟩) (by assumption) ?_
          rotate_left
          · intro w' hSw; obtain ⟨e0, e1, e2, e3, e4, e5, e6⟩ := hSw
            go_simp; try with_reducible rfl
          try simp only [Act.put, List.setIfInBounds_toArray, List.set_cons_zero, List.set_cons_succ]
          refine wpAnyH_done (by kernel_rfl) ?_ _
          have x0 := HBxbAc.out.c0
          have x1 := HBxbAc.out.c1
          have x2 := HBxbAc.out.c2
          simp only at x0 x1 x2
          have hbA2 := HLbA.out
          clear HBxbAc
          go_upto_region 8 with fail
          refine wp_region_held_drew (S := (fun w' => w'.cell? ⟨w.heap.size, 0, none⟩ = some (.slice c0 t.net.stops.length d0) ∧ w'.cell? ⟨w.heap.size, 1, none⟩ = some (.slice c1 t.net.lines.length d1) ∧ w'.cell? ⟨w.heap.size, 2, none⟩ = some (.slice c2 t.trips.length d2) ∧ w'.cell? ⟨w.heap.size + 1, 0, none⟩ = some (.slice fa f.dead.length fc) ∧ w'.cell? ⟨w.heap.size + 1, 1, none⟩ = some (.int .i64 f.turn) ∧ w'.cell? ⟨pb, po, none⟩ = some (.int .i64 idp) ∧ w'.cell? ⟨pb, po + m, none⟩ = some (.int .i64 id) ∧ w'.cell? ⟨bA, 0, none⟩ = some (.int .i64 xi) ∧ w'.cell? ⟨bA, 1, none⟩ = some (.int .i64 xl) ∧ w'.cell? ⟨bA, 2, none⟩ = some (.int .i64 xs))) (by kernel_rfl) ?_ (fun hHeld => ?_)
          · exact ⟨p0, p1, p2, q0, q1, zP, zK, x0, x1, x2⟩
          refine wpAnyH_take (i := 0) (v := ?_) (by simp only [List.getElem?_toArray, List.getElem?_cons_zero]; rfl) (by kernel_rfl) (by kernel_rfl) (by kernel_rfl) (by exact fun _ _ _ h => h) (Or.inl ⟨by rfl, ?_⟩) (by assumption) ?_
          rotate_left
          · intro w' hSw; obtain ⟨e0, e1, e2, e3, e4, e5, e6, e7, e8, e9⟩ := hSw
            go_simp; try with_reducible rfl
          try simp only [Act.put, List.setIfInBounds_toArray, List.set_cons_zero, List.set_cons_succ]
          refine wpAnyH_take (i := 1) (v := ?_) (by simp only [List.getElem?_toArray, List.getElem?_cons_succ, List.getElem?_cons_zero]; rfl) (by kernel_rfl) (by kernel_rfl) (by kernel_rfl) (by exact fun _ _ _ h => h) (Or.inl ⟨by rfl, ?_⟩) (by assumption) ?_
          rotate_left
          · intro w' hSw; obtain ⟨e0, e1, e2, e3, e4, e5, e6, e7, e8, e9⟩ := hSw
            go_simp; try with_reducible rfl
          try simp only [Act.put, List.setIfInBounds_toArray, List.set_cons_zero, List.set_cons_succ]
          refine wpAnyH_take (i := 2) (v := ?_) (by simp only [List.getElem?_toArray, List.getElem?_cons_succ, List.getElem?_cons_zero]; rfl) (by kernel_rfl) (by kernel_rfl) (by kernel_rfl) (by exact fun _ _ _ h => h) (Or.inl ⟨by rfl, ?_⟩) (by assumption) ?_
          rotate_left
          · intro w' hSw; obtain ⟨e0, e1, e2, e3, e4, e5, e6, e7, e8, e9⟩ := hSw
            go_simp; try with_reducible rfl
          try simp only [Act.put, List.setIfInBounds_toArray, List.set_cons_zero, List.set_cons_succ]
          refine wpAnyH_take (i := 3) (v := ?_) (by simp only [List.getElem?_toArray, List.getElem?_cons_succ, List.getElem?_cons_zero]; rfl) (by kernel_rfl) (by kernel_rfl) (by kernel_rfl) (by exact fun _ _ _ h => h) (Or.inl ⟨by rfl, ?_⟩) (by assumption) ?_
          rotate_left
          · intro w' hSw; obtain ⟨e0, e1, e2, e3, e4, e5, e6, e7, e8, e9⟩ := hSw
            go_simp; try with_reducible rfl
          try simp only [Act.put, List.setIfInBounds_toArray, List.set_cons_zero, List.set_cons_succ]
          refine wpAnyH_take (i := 4) (v := ?_) (by simp only [List.getElem?_toArray, List.getElem?_cons_succ, List.getElem?_cons_zero]; rfl) (by kernel_rfl) (by kernel_rfl) (by kernel_rfl) (by exact fun _ _ _ h => h) (Or.inl ⟨by rfl, ?_⟩) (by assumption) ?_
          rotate_left
          · intro w' hSw; obtain ⟨e0, e1, e2, e3, e4, e5, e6, e7, e8, e9⟩ := hSw
            go_simp; try with_reducible rfl
          try simp only [Act.put, List.setIfInBounds_toArray, List.set_cons_zero, List.set_cons_succ]
          refine wpAnyH_take (i := 5) (v := ?_) (by simp only [List.getElem?_toArray, List.getElem?_cons_succ, List.getElem?_cons_zero]; rfl) (by kernel_rfl) (by kernel_rfl) (by kernel_rfl) (by exact fun _ _ _ h => h) (Or.inl ⟨by rfl, ?_⟩) (by assumption) ?_
          rotate_left
          · intro w' hSw; obtain ⟨e0, e1, e2, e3, e4, e5, e6, e7, e8, e9⟩ := hSw
            go_simp; try with_reducible rfl
          try simp only [Act.put, List.setIfInBounds_toArray, List.set_cons_zero, List.set_cons_succ]
          refine wpAnyH_take (i := 6) (v := ?_) (by simp only [List.getElem?_toArray, List.getElem?_cons_succ, List.getElem?_cons_zero]; rfl) (by kernel_rfl) (by kernel_rfl) (by kernel_rfl) (by exact fun _ _ _ h => h) (Or.inl ⟨by rfl, ?_⟩) (by assumption) ?_
          rotate_left
          · intro w' hSw; obtain ⟨e0, e1, e2, e3, e4, e5, e6, e7, e8, e9⟩ := hSw
            go_simp; try with_reducible rfl
          try simp only [Act.put, List.setIfInBounds_toArray, List.set_cons_zero, List.set_cons_succ]
          refine wpAnyH_ready (rs := [7, 11]) (by kernel_rfl) (by simp) ?_
          refine AllReadyH.cons (by simp only [List.getElem?_toArray, List.getElem?_cons_succ, List.getElem?_cons_zero]; rfl) (fun K hK => ?_) (AllReadyH.cons (by simp only [List.getElem?_toArray, List.getElem?_cons_succ, List.getElem?_cons_zero]; rfl) (fun K hK => ?_) AllReadyH.nil)
          · go_simp
            go_at_call 62
            refine (HT2.out _ (HBu3.out.1.drew)).mono ?_
            rintro e wva ⟨rfl, hb⟩
            have rbw : Below wuc.heap.size wuc wva := (Below.refl _ _).drew.trans hb
            have hS2 : wva.cell? ⟨w.heap.size, 0, none⟩ = some (.slice c0 t.net.stops.length d0) ∧ wva.cell? ⟨w.heap.size, 1, none⟩ = some (.slice c1 t.net.lines.length d1) ∧ wva.cell? ⟨w.heap.size, 2, none⟩ = some (.slice c2 t.trips.length d2) ∧ wva.cell? ⟨w.heap.size + 1, 0, none⟩ = some (.slice fa f.dead.length fc) ∧ wva.cell? ⟨w.heap.size + 1, 1, none⟩ = some (.int .i64 f.turn) ∧ wva.cell? ⟨pb, po, none⟩ = some (.int .i64 idp) ∧ wva.cell? ⟨pb, po + m, none⟩ = some (.int .i64 id) ∧ wva.cell? ⟨bA, 0, none⟩ = some (.int .i64 xi) ∧ wva.cell? ⟨bA, 1, none⟩ = some (.int .i64 xl) ∧ wva.cell? ⟨bA, 2, none⟩ = some (.int .i64 xs) := ⟨bkeep rbw p0, bkeep rbw p1, bkeep rbw p2, bkeep rbw q0, bkeep rbw q1, bkeep rbw zP, bkeep rbw zK, bkeep rbw x0, bkeep rbw x1, bkeep rbw x2⟩
            have HBv1 : Hid (Below w.heap.size w wva ∧ w.heap.size + 2 ≤ wva.heap.size) := ⟨HBu3.out.1.trans (rbw.mono HBu3.out.1.size), Nat.le_trans HBu3.out.2 rbw.size⟩
            have HOwva := Lib.hid (own_later HOwuc.out rbw)
            clear HOwuc
            clear hb rbw
            go_wp2_with fail
            refine hK.out _ _ hS2 (fun hH7 => ?_)
            obtain ⟨p0, p1, p2, q0, q1, zP, zK, x0, x1, x2⟩ := hS2
            clear hK K
            try simp only [Act.put, List.setIfInBounds_toArray, List.set_cons_zero, List.set_cons_succ]
            refine wpAnyH_take (i := 8) (v := ?_) (by simp only [List.getElem?_toArray, List.getElem?_cons_succ, List.getElem?_cons_zero]; rfl) (by kernel_rfl) (by kernel_rfl) (by kernel_rfl) (by exact fun _ _ _ h => h) (Or.inl ⟨by rfl, ?_⟩) (by assumption) ?_
            rotate_left
            · intro w' hSw; obtain ⟨e0, e1, e2, e3, e4, e5, e6, e7, e8, e9⟩ := hSw
              go_simp; try with_reducible rfl
            try simp only [Act.put, List.setIfInBounds_toArray, List.set_cons_zero, List.set_cons_succ]
            refine wpAnyH_take (i := 9) (v := ?_) (by simp only [List.getElem?_toArray, List.getElem?_cons_succ, List.getElem?_cons_zero]; rfl) (by kernel_rfl) (by kernel_rfl) (by kernel_rfl) (by exact fun _ _ _ h => h) (Or.inl ⟨by rfl, ?_⟩) (by assumption) ?_
            rotate_left
            · intro w' hSw; obtain ⟨e0, e1, e2, e3, e4, e5, e6, e7, e8, e9⟩ := hSw
              go_simp; try with_reducible rfl
            try simp only [Act.put, List.setIfInBounds_toArray, List.set_cons_zero, List.set_cons_succ]
            refine wpAnyH_take (i := 10) (v := ?_) (by simp only [List.getElem?_toArray, List.getElem?_cons_succ, List.getElem?_cons_zero]; rfl) (by kernel_rfl) (by kernel_rfl) (by kernel_rfl) (by exact fun _ _ _ h => h) (Or.inl ⟨by rfl, ?_⟩) (by assumption) ?_
            rotate_left
            · intro w' hSw; obtain ⟨e0, e1, e2, e3, e4, e5, e6, e7, e8, e9⟩ := hSw
              go_simp; try with_reducible rfl
            try simp only [Act.put, List.setIfInBounds_toArray, List.set_cons_zero, List.set_cons_succ]
            refine wpAnyH_ready (rs := [11]) (by kernel_rfl) (by simp) ?_
            refine AllReadyH.cons (by simp only [List.getElem?_toArray, List.getElem?_cons_succ, List.getElem?_cons_zero]; rfl) (fun K hK => ?_) AllReadyH.nil
            go_simp
            obtain ⟨wvb, hwA⟩ : ∃ wA : World, wA = (World.alloc wva (.cells #[.int .i64 0, .int .i64 0, .int .i64 0] 89)) := ⟨_, rfl⟩
            have rbw : Below wva.heap.size wva wvb := by rw [hwA]; exact ((Below.refl _ _).alloc (Nat.le_refl _) _)
            have hS2 : wvb.cell? ⟨w.heap.size, 0, none⟩ = some (.slice c0 t.net.stops.length d0) ∧ wvb.cell? ⟨w.heap.size, 1, none⟩ = some (.slice c1 t.net.lines.length d1) ∧ wvb.cell? ⟨w.heap.size, 2, none⟩ = some (.slice c2 t.trips.length d2) ∧ wvb.cell? ⟨w.heap.size + 1, 0, none⟩ = some (.slice fa f.dead.length fc) ∧ wvb.cell? ⟨w.heap.size + 1, 1, none⟩ = some (.int .i64 f.turn) ∧ wvb.cell? ⟨pb, po, none⟩ = some (.int .i64 idp) ∧ wvb.cell? ⟨pb, po + m, none⟩ = some (.int .i64 id) ∧ wvb.cell? ⟨bA, 0, none⟩ = some (.int .i64 xi) ∧ wvb.cell? ⟨bA, 1, none⟩ = some (.int .i64 xl) ∧ wvb.cell? ⟨bA, 2, none⟩ = some (.int .i64 xs) := ⟨bkeep rbw p0, bkeep rbw p1, bkeep rbw p2, bkeep rbw q0, bkeep rbw q1, bkeep rbw zP, bkeep rbw zK, bkeep rbw x0, bkeep rbw x1, bkeep rbw x2⟩
            have HBv2 : Hid (Below w.heap.size w wvb ∧ w.heap.size + 2 ≤ wvb.heap.size) := ⟨HBv1.out.1.trans (rbw.mono HBv1.out.1.size), Nat.le_trans HBv1.out.2 rbw.size⟩
            obtain ⟨bB, hbB⟩ : ∃ b, wva.heap.size = b := ⟨_, rfl⟩
            have HBxbB : Hid (TripBox wvb bB ⟨0, 0, 0⟩) := by rw [hwA, ← hbB]; exact ⟨by show World.cell? (World.alloc wva _) _ = _; go_simp, by show World.cell? (World.alloc wva _) _ = _; go_simp, by show World.cell? (World.alloc wva _) _ = _; go_simp, fun o => by show World.frozen? (World.alloc wva _) _ = _; go_simp⟩
            have hPBbB : pb < bB := by rw [← hbB]; exact World.block_lt_of_cell? _ _ zP
            have HLbB : Hid (w.heap.size + 2 ≤ bB) := by show _ ≤ _; have := HBv1.out.2; omega
            have hAB : bA < bB := by rw [← hbB]; exact World.block_lt_of_cell? _ _ x0
            have HRbB : Hid (∀ g, (Value.slice sa i sc).ownBlock = some g → g ≠ bB) := fun g hg => by have := (HOwva.out.lt g hg).2; omega
            have HOwvb := Lib.hid (own_later HOwva.out rbw)
            clear HOwva
            rw [← hwA]
            rw [hbB]
            clear rbw hwA
            refine hK.out _ _ hS2 (fun hH11 => ?_)
            obtain ⟨p0, p1, p2, q0, q1, zP, zK, x0, x1, x2⟩ := hS2
            clear hK K
            try simp only [Act.put, List.setIfInBounds_toArray, List.set_cons_zero, List.set_cons_succ]
            refine wpAnyH_ready (rs := [12]) (by kernel_rfl) (by simp) ?_
            refine AllReadyH.cons (by simp only [List.getElem?_toArray, List.getElem?_cons_succ, List.getElem?_cons_zero]; rfl) (fun K hK => ?_) AllReadyH.nil
            have hb0 := HBxbB.out.c0
            have hb1 := HBxbB.out.c1
            have hb2 := HBxbB.out.c2
            have hbf := HBxbB.out.fz
            have hbl := HLbB.out
            go_simp
            obtain ⟨wvc, hwA⟩ : ∃ wA : World, wA = (((World.setCell wvb ⟨bB, 0, none⟩ (.int .i64 yi)).setCell ⟨bB, 1, none⟩ (.int .i64 yl)).setCell ⟨bB, 2, none⟩ (.int .i64 ys)) := ⟨_, rfl⟩
            have hS2 : wvc.cell? ⟨w.heap.size, 0, none⟩ = some (.slice c0 t.net.stops.length d0) ∧ wvc.cell? ⟨w.heap.size, 1, none⟩ = some (.slice c1 t.net.lines.length d1) ∧ wvc.cell? ⟨w.heap.size, 2, none⟩ = some (.slice c2 t.trips.length d2) ∧ wvc.cell? ⟨w.heap.size + 1, 0, none⟩ = some (.slice fa f.dead.length fc) ∧ wvc.cell? ⟨w.heap.size + 1, 1, none⟩ = some (.int .i64 f.turn) ∧ wvc.cell? ⟨pb, po, none⟩ = some (.int .i64 idp) ∧ wvc.cell? ⟨pb, po + m, none⟩ = some (.int .i64 id) ∧ wvc.cell? ⟨bA, 0, none⟩ = some (.int .i64 xi) ∧ wvc.cell? ⟨bA, 1, none⟩ = some (.int .i64 xl) ∧ wvc.cell? ⟨bA, 2, none⟩ = some (.int .i64 xs) := by rw [hwA]; exact ⟨(set3_cell (by dsimp only; omega)).trans p0, (set3_cell (by dsimp only; omega)).trans p1, (set3_cell (by dsimp only; omega)).trans p2, (set3_cell (by dsimp only; omega)).trans q0, (set3_cell (by dsimp only; omega)).trans q1, (set3_cell (by dsimp only; omega)).trans zP, (set3_cell (by dsimp only; omega)).trans zK, (set3_cell (by dsimp only; omega)).trans x0, (set3_cell (by dsimp only; omega)).trans x1, (set3_cell (by dsimp only; omega)).trans x2⟩
            have HBxbBc : Hid (TripBox wvc bB ⟨yi, yl, ys⟩) := by rw [hwA]; exact HBxbB.out.set _ _ _
            have HBv3 : Hid (Below w.heap.size w wvc ∧ w.heap.size + 2 ≤ wvc.heap.size) := by rw [hwA]; exact ⟨((HBv2.out.1.setCell (p := ⟨bB, 0, none⟩) (by dsimp only; omega) _).setCell (p := ⟨bB, 1, none⟩) (by dsimp only; omega) _).setCell (p := ⟨bB, 2, none⟩) (by dsimp only; omega) _, by simpa [World.setCell] using HBv2.out.2⟩
            have HOwvc : Hid (wvc.ownsRow (w.heap.size + 2) 104 2 (.slice sa i sc) i (spanC ((spansT t bs).take i))) := by show World.ownsRow _ _ _ _ _ _ _; rw [hwA]; exact own_other (own_other (own_other HOwvb.out (fun e => HRbB.out _ e rfl) _) (fun e => HRbB.out _ e rfl) _) (fun e => HRbB.out _ e rfl) _
            clear HOwvb
            rw [← hwA]
            clear hwA hb0 hb1 hb2 hbf
            refine hK.out _ _ hS2 (fun hH12 => ?_)
            obtain ⟨p0, p1, p2, q0, q1, zP, zK, x0, x1, x2⟩ := hS2
            clear HBxbB HBv2
            clear hK K
            try simp only [Act.put, List.setIfInBounds_toArray, List.set_cons_zero, List.set_cons_succ]
            refine wpAnyH_take (i := 13) (v := ?_) (by simp only [List.getElem?_toArray, List.getElem?_cons_succ, List.getElem?_cons_zero]; rfl) (by kernel_rfl) (by kernel_rfl) (by kernel_rfl) (by exact fun _ _ _ h => h) (Or.inl ⟨by rfl, ?_⟩) (by assumption) ?_
            rotate_left
            · intro w' hSw; obtain ⟨e0, e1, e2, e3, e4, e5, e6, e7, e8, e9⟩ := hSw
              go_simp; try with_reducible rfl
            try simp only [Act.put, List.setIfInBounds_toArray, List.set_cons_zero, List.set_cons_succ]
            refine wpAnyH_done (by kernel_rfl) ?_ _
            have y0 := HBxbBc.out.c0
            have y1 := HBxbBc.out.c1
            have y2 := HBxbBc.out.c2
            have HB9 := HBv3
            clear HBxbBc HT1 HT2
            go_wp2_with fail
            go_at_call 75
            refine (HD.out _ HB9.out.1).mono ?_
            rintro e w9 ⟨rfl, hb9⟩
            have HB10 : Hid (Below w.heap.size w w9 ∧ w.heap.size + 2 ≤ w9.heap.size) := ⟨HB9.out.1.trans (hb9.mono HB9.out.1.size), Nat.le_trans HB9.out.2 hb9.size⟩
            have HO9 := Lib.hid (own_later HOwvc.out hb9)
            have hz9 := HB10.out.2
            have p0 := bkeep hb9 p0
            have p1 := bkeep hb9 p1
            have p2 := bkeep hb9 p2
            have q0 := bkeep hb9 q0
            have q1 := bkeep hb9 q1
            clear hb9 x0 x1 x2 y0 y1 y2 zP zK HOwvc
            go_wp2_with (at_builtin; refine wpList_append_own _ rfl _ _ 63 rfl (w.heap.size + 2) 104 i0 (.agg #[.int .i64 0, .int .i64 0]) 2 16 Try.underlying63 hi0 iz0 iz1 iz2 rfl (by decide) _ _ _ rfl (HO9.out.alloc _) ⟨w9.heap.size, 0, none⟩ 1 1 (spanC [(xs, A)]) rfl rfl ?c1 ?c2 ?c3 ?c4 ?c5 ?_)
            case c1 => exact spanC_one _ _ _
            case c2 => exact spanC_cells _
            case c3 => unfold maxLen; omega
            case c4 => omega
            case c5 => simp; omega
            intro v' w5 hown' hgrow _
            have hown0 := HO9.out
            have HB5 : Hid (Below w.heap.size w w5 ∧ w.heap.size + 2 ≤ w5.heap.size) := ⟨(HB10.out.1.alloc (by omega) _).grown hgrow (by simp; omega) (fun g hg => by have := (hown0.lt g hg).1; omega), by have := hgrow.size; simp at this; omega⟩
            have hb6 : Below (w.heap.size + 2) (w9.alloc (.cells #[.int .i64 xs, .int .i64 A] 104)) w5 := (Below.refl _ _).grown hgrow (by simp; omega) (fun g hg => (hown0.lt g hg).1)
            have p0 : w5.cell? ⟨w.heap.size, 0, none⟩ = some (.slice c0 t.net.stops.length d0) := by rw [hb6.cell (p := ⟨w.heap.size, 0, none⟩) (by dsimp only; omega)]; exact acell p0 _
            have p1 : w5.cell? ⟨w.heap.size, 1, none⟩ = some (.slice c1 t.net.lines.length d1) := by rw [hb6.cell (p := ⟨w.heap.size, 1, none⟩) (by dsimp only; omega)]; exact acell p1 _
            have p2 : w5.cell? ⟨w.heap.size, 2, none⟩ = some (.slice c2 t.trips.length d2) := by rw [hb6.cell (p := ⟨w.heap.size, 2, none⟩) (by dsimp only; omega)]; exact acell p2 _
            have q0 : w5.cell? ⟨w.heap.size + 1, 0, none⟩ = some (.slice fa f.dead.length fc) := by rw [hb6.cell (p := ⟨w.heap.size + 1, 0, none⟩) (by dsimp only; omega)]; exact acell q0 _
            have q1 : w5.cell? ⟨w.heap.size + 1, 1, none⟩ = some (.int .i64 f.turn) := by rw [hb6.cell (p := ⟨w.heap.size + 1, 1, none⟩) (by dsimp only; omega)]; exact acell q1 _
            rw [← spanC_append, ← HTk.out] at hown'
            obtain ⟨a6, c6, rfl⟩ := own_shape hown'
            have HR5 := Lib.hid hown'
            clear hown' hgrow hown0 hb6
            go_wp2_with fail
            go_roundw
            case rel => exact ⟨i + 1, c6, a6, by omega, by go_num, rfl, HR5, p0, p1, p2, q0, q1, HB5⟩
            case measure => simp [RowKit.intOf]; omega
          · go_simp
            obtain ⟨wva, hwA⟩ : ∃ wA : World, wA = (World.alloc wuc (.cells #[.int .i64 0, .int .i64 0, .int .i64 0] 89)).drew := ⟨_, rfl⟩
            have rbw : Below wuc.heap.size wuc wva := by rw [hwA]; exact ((Below.refl _ _).alloc (Nat.le_refl _) _).drew
            have hS2 : wva.cell? ⟨w.heap.size, 0, none⟩ = some (.slice c0 t.net.stops.length d0) ∧ wva.cell? ⟨w.heap.size, 1, none⟩ = some (.slice c1 t.net.lines.length d1) ∧ wva.cell? ⟨w.heap.size, 2, none⟩ = some (.slice c2 t.trips.length d2) ∧ wva.cell? ⟨w.heap.size + 1, 0, none⟩ = some (.slice fa f.dead.length fc) ∧ wva.cell? ⟨w.heap.size + 1, 1, none⟩ = some (.int .i64 f.turn) ∧ wva.cell? ⟨pb, po, none⟩ = some (.int .i64 idp) ∧ wva.cell? ⟨pb, po + m, none⟩ = some (.int .i64 id) ∧ wva.cell? ⟨bA, 0, none⟩ = some (.int .i64 xi) ∧ wva.cell? ⟨bA, 1, none⟩ = some (.int .i64 xl) ∧ wva.cell? ⟨bA, 2, none⟩ = some (.int .i64 xs) := ⟨bkeep rbw p0, bkeep rbw p1, bkeep rbw p2, bkeep rbw q0, bkeep rbw q1, bkeep rbw zP, bkeep rbw zK, bkeep rbw x0, bkeep rbw x1, bkeep rbw x2⟩
            have HBv1 : Hid (Below w.heap.size w wva ∧ w.heap.size + 2 ≤ wva.heap.size) := ⟨HBu3.out.1.trans (rbw.mono HBu3.out.1.size), Nat.le_trans HBu3.out.2 rbw.size⟩
            obtain ⟨bB, hbB⟩ : ∃ b, wuc.heap.size = b := ⟨_, rfl⟩
            have HBxbBa : Hid (TripBox wva bB ⟨0, 0, 0⟩) := by rw [hwA, ← hbB]; exact ⟨by show World.cell? (World.alloc wuc _) _ = _; go_simp, by show World.cell? (World.alloc wuc _) _ = _; go_simp, by show World.cell? (World.alloc wuc _) _ = _; go_simp, fun o => by show World.frozen? (World.alloc wuc _) _ = _; go_simp⟩
            have hPBbB : pb < bB := by rw [← hbB]; exact World.block_lt_of_cell? _ _ zP
            have HLbB : Hid (w.heap.size + 2 ≤ bB) := by show _ ≤ _; have := HBu3.out.2; omega
            have hAB : bA < bB := by rw [← hbB]; exact World.block_lt_of_cell? _ _ x0
            have HRbB : Hid (∀ g, (Value.slice sa i sc).ownBlock = some g → g ≠ bB) := fun g hg => by have := (HOwuc.out.lt g hg).2; omega
            have HOwva := Lib.hid (own_later HOwuc.out rbw)
            clear HOwuc
            rw [← hwA]
            rw [hbB]
            clear rbw hwA
            refine hK.out _ _ hS2 (fun hH11 => ?_)
            obtain ⟨p0, p1, p2, q0, q1, zP, zK, x0, x1, x2⟩ := hS2
            clear hK K
            try simp only [Act.put, List.setIfInBounds_toArray, List.set_cons_zero, List.set_cons_succ]
            refine wpAnyH_ready (rs := [7]) (by kernel_rfl) (by simp) ?_
            refine AllReadyH.cons (by simp only [List.getElem?_toArray, List.getElem?_cons_succ, List.getElem?_cons_zero]; rfl) (fun K hK => ?_) AllReadyH.nil
            go_simp
            go_at_call 62
            refine (HT2.out _ (HBv1.out.1)).mono ?_
            rintro e wvb ⟨rfl, hb⟩
            have rbw : Below wva.heap.size wva wvb := hb
            have hS2 : wvb.cell? ⟨w.heap.size, 0, none⟩ = some (.slice c0 t.net.stops.length d0) ∧ wvb.cell? ⟨w.heap.size, 1, none⟩ = some (.slice c1 t.net.lines.length d1) ∧ wvb.cell? ⟨w.heap.size, 2, none⟩ = some (.slice c2 t.trips.length d2) ∧ wvb.cell? ⟨w.heap.size + 1, 0, none⟩ = some (.slice fa f.dead.length fc) ∧ wvb.cell? ⟨w.heap.size + 1, 1, none⟩ = some (.int .i64 f.turn) ∧ wvb.cell? ⟨pb, po, none⟩ = some (.int .i64 idp) ∧ wvb.cell? ⟨pb, po + m, none⟩ = some (.int .i64 id) ∧ wvb.cell? ⟨bA, 0, none⟩ = some (.int .i64 xi) ∧ wvb.cell? ⟨bA, 1, none⟩ = some (.int .i64 xl) ∧ wvb.cell? ⟨bA, 2, none⟩ = some (.int .i64 xs) := ⟨bkeep rbw p0, bkeep rbw p1, bkeep rbw p2, bkeep rbw q0, bkeep rbw q1, bkeep rbw zP, bkeep rbw zK, bkeep rbw x0, bkeep rbw x1, bkeep rbw x2⟩
            have HBv2 : Hid (Below w.heap.size w wvb ∧ w.heap.size + 2 ≤ wvb.heap.size) := ⟨HBv1.out.1.trans (rbw.mono HBv1.out.1.size), Nat.le_trans HBv1.out.2 rbw.size⟩
            have HOwvb := Lib.hid (own_later HOwva.out rbw)
            clear HOwva
            have HBxbB := Lib.hid (HBxbBa.out.keep rbw)
            clear HBxbBa
            clear hb rbw
            go_wp2_with fail
            refine hK.out _ _ hS2 (fun hH7 => ?_)
            obtain ⟨p0, p1, p2, q0, q1, zP, zK, x0, x1, x2⟩ := hS2
            clear hK K
            try simp only [Act.put, List.setIfInBounds_toArray, List.set_cons_zero, List.set_cons_succ]
            refine wpAnyH_take (i := 8) (v := ?_) (by simp only [List.getElem?_toArray, List.getElem?_cons_succ, List.getElem?_cons_zero]; rfl) (by kernel_rfl) (by kernel_rfl) (by kernel_rfl) (by exact fun _ _ _ h => h) (Or.inl ⟨by rfl, ?_⟩) (by assumption) ?_
            rotate_left
            · intro w' hSw; obtain ⟨e0, e1, e2, e3, e4, e5, e6, e7, e8, e9⟩ := hSw
              go_simp; try with_reducible rfl
            try simp only [Act.put, List.setIfInBounds_toArray, List.set_cons_zero, List.set_cons_succ]
            refine wpAnyH_take (i := 9) (v := ?_) (by simp only [List.getElem?_toArray, List.getElem?_cons_succ, List.getElem?_cons_zero]; rfl) (by kernel_rfl) (by kernel_rfl) (by kernel_rfl) (by exact fun _ _ _ h => h) (Or.inl ⟨by rfl, ?_⟩) (by assumption) ?_
            rotate_left
            · intro w' hSw; obtain ⟨e0, e1, e2, e3, e4, e5, e6, e7, e8, e9⟩ := hSw
              go_simp; try with_reducible rfl
            try simp only [Act.put, List.setIfInBounds_toArray, List.set_cons_zero, List.set_cons_succ]
            refine wpAnyH_take (i := 10) (v := ?_) (by simp only [List.getElem?_toArray, List.getElem?_cons_succ, List.getElem?_cons_zero]; rfl) (by kernel_rfl) (by kernel_rfl) (by kernel_rfl) (by exact fun _ _ _ h => h) (Or.inl ⟨by rfl, ?_⟩) (by assumption) ?_
            rotate_left
            · intro w' hSw; obtain ⟨e0, e1, e2, e3, e4, e5, e6, e7, e8, e9⟩ := hSw
              go_simp; try with_reducible rfl
            try simp only [Act.put, List.setIfInBounds_toArray, List.set_cons_zero, List.set_cons_succ]
            refine wpAnyH_ready (rs := [12]) (by kernel_rfl) (by simp) ?_
            refine AllReadyH.cons (by simp only [List.getElem?_toArray, List.getElem?_cons_succ, List.getElem?_cons_zero]; rfl) (fun K hK => ?_) AllReadyH.nil
            have hb0 := HBxbB.out.c0
            have hb1 := HBxbB.out.c1
            have hb2 := HBxbB.out.c2
            have hbf := HBxbB.out.fz
            have hbl := HLbB.out
            go_simp
            obtain ⟨wvc, hwA⟩ : ∃ wA : World, wA = (((World.setCell wvb ⟨bB, 0, none⟩ (.int .i64 yi)).setCell ⟨bB, 1, none⟩ (.int .i64 yl)).setCell ⟨bB, 2, none⟩ (.int .i64 ys)) := ⟨_, rfl⟩
            have hS2 : wvc.cell? ⟨w.heap.size, 0, none⟩ = some (.slice c0 t.net.stops.length d0) ∧ wvc.cell? ⟨w.heap.size, 1, none⟩ = some (.slice c1 t.net.lines.length d1) ∧ wvc.cell? ⟨w.heap.size, 2, none⟩ = some (.slice c2 t.trips.length d2) ∧ wvc.cell? ⟨w.heap.size + 1, 0, none⟩ = some (.slice fa f.dead.length fc) ∧ wvc.cell? ⟨w.heap.size + 1, 1, none⟩ = some (.int .i64 f.turn) ∧ wvc.cell? ⟨pb, po, none⟩ = some (.int .i64 idp) ∧ wvc.cell? ⟨pb, po + m, none⟩ = some (.int .i64 id) ∧ wvc.cell? ⟨bA, 0, none⟩ = some (.int .i64 xi) ∧ wvc.cell? ⟨bA, 1, none⟩ = some (.int .i64 xl) ∧ wvc.cell? ⟨bA, 2, none⟩ = some (.int .i64 xs) := by rw [hwA]; exact ⟨(set3_cell (by dsimp only; omega)).trans p0, (set3_cell (by dsimp only; omega)).trans p1, (set3_cell (by dsimp only; omega)).trans p2, (set3_cell (by dsimp only; omega)).trans q0, (set3_cell (by dsimp only; omega)).trans q1, (set3_cell (by dsimp only; omega)).trans zP, (set3_cell (by dsimp only; omega)).trans zK, (set3_cell (by dsimp only; omega)).trans x0, (set3_cell (by dsimp only; omega)).trans x1, (set3_cell (by dsimp only; omega)).trans x2⟩
            have HBxbBc : Hid (TripBox wvc bB ⟨yi, yl, ys⟩) := by rw [hwA]; exact HBxbB.out.set _ _ _
            have HBv3 : Hid (Below w.heap.size w wvc ∧ w.heap.size + 2 ≤ wvc.heap.size) := by rw [hwA]; exact ⟨((HBv2.out.1.setCell (p := ⟨bB, 0, none⟩) (by dsimp only; omega) _).setCell (p := ⟨bB, 1, none⟩) (by dsimp only; omega) _).setCell (p := ⟨bB, 2, none⟩) (by dsimp only; omega) _, by simpa [World.setCell] using HBv2.out.2⟩
            have HOwvc : Hid (wvc.ownsRow (w.heap.size + 2) 104 2 (.slice sa i sc) i (spanC ((spansT t bs).take i))) := by show World.ownsRow _ _ _ _ _ _ _; rw [hwA]; exact own_other (own_other (own_other HOwvb.out (fun e => HRbB.out _ e rfl) _) (fun e => HRbB.out _ e rfl) _) (fun e => HRbB.out _ e rfl) _
            clear HOwvb
            rw [← hwA]
            clear hwA hb0 hb1 hb2 hbf
            refine hK.out _ _ hS2 (fun hH12 => ?_)
            obtain ⟨p0, p1, p2, q0, q1, zP, zK, x0, x1, x2⟩ := hS2
            clear HBxbB HBv2
            clear hK K
            try simp only [Act.put, List.setIfInBounds_toArray, List.set_cons_zero, List.set_cons_succ]
            refine wpAnyH_take (i := 13) (v := ?_) (by simp only [List.getElem?_toArray, List.getElem?_cons_succ, List.getElem?_cons_zero]; rfl) (by kernel_rfl) (by kernel_rfl) (by kernel_rfl) (by exact fun _ _ _ h => h) (Or.inl ⟨by rfl, ?_⟩) (by assumption) ?_
            rotate_left
            · intro w' hSw; obtain ⟨e0, e1, e2, e3, e4, e5, e6, e7, e8, e9⟩ := hSw
              go_simp; try with_reducible rfl
            try simp only [Act.put, List.setIfInBounds_toArray, List.set_cons_zero, List.set_cons_succ]
            refine wpAnyH_done (by kernel_rfl) ?_ _
            have y0 := HBxbBc.out.c0
            have y1 := HBxbBc.out.c1
            have y2 := HBxbBc.out.c2
            have HB9 := HBv3
            clear HBxbBc HT1 HT2
            go_wp2_with fail
            go_at_call 75
            refine (HD.out _ HB9.out.1).mono ?_
            rintro e w9 ⟨rfl, hb9⟩
            have HB10 : Hid (Below w.heap.size w w9 ∧ w.heap.size + 2 ≤ w9.heap.size) := ⟨HB9.out.1.trans (hb9.mono HB9.out.1.size), Nat.le_trans HB9.out.2 hb9.size⟩
            have HO9 := Lib.hid (own_later HOwvc.out hb9)
            have hz9 := HB10.out.2
            have p0 := bkeep hb9 p0
            have p1 := bkeep hb9 p1
            have p2 := bkeep hb9 p2
            have q0 := bkeep hb9 q0
            have q1 := bkeep hb9 q1
            clear hb9 x0 x1 x2 y0 y1 y2 zP zK HOwvc
            go_wp2_with (at_builtin; refine wpList_append_own _ rfl _ _ 63 rfl (w.heap.size + 2) 104 i0 (.agg #[.int .i64 0, .int .i64 0]) 2 16 Try.underlying63 hi0 iz0 iz1 iz2 rfl (by decide) _ _ _ rfl (HO9.out.alloc _) ⟨w9.heap.size, 0, none⟩ 1 1 (spanC [(xs, A)]) rfl rfl ?c1 ?c2 ?c3 ?c4 ?c5 ?_)
            case c1 => exact spanC_one _ _ _
            case c2 => exact spanC_cells _
            case c3 => unfold maxLen; omega
            case c4 => omega
            case c5 => simp; omega
            intro v' w5 hown' hgrow _
            have hown0 := HO9.out
            have HB5 : Hid (Below w.heap.size w w5 ∧ w.heap.size + 2 ≤ w5.heap.size) := ⟨(HB10.out.1.alloc (by omega) _).grown hgrow (by simp; omega) (fun g hg => by have := (hown0.lt g hg).1; omega), by have := hgrow.size; simp at this; omega⟩
            have hb6 : Below (w.heap.size + 2) (w9.alloc (.cells #[.int .i64 xs, .int .i64 A] 104)) w5 := (Below.refl _ _).grown hgrow (by simp; omega) (fun g hg => (hown0.lt g hg).1)
            have p0 : w5.cell? ⟨w.heap.size, 0, none⟩ = some (.slice c0 t.net.stops.length d0) := by rw [hb6.cell (p := ⟨w.heap.size, 0, none⟩) (by dsimp only; omega)]; exact acell p0 _
            have p1 : w5.cell? ⟨w.heap.size, 1, none⟩ = some (.slice c1 t.net.lines.length d1) := by rw [hb6.cell (p := ⟨w.heap.size, 1, none⟩) (by dsimp only; omega)]; exact acell p1 _
            have p2 : w5.cell? ⟨w.heap.size, 2, none⟩ = some (.slice c2 t.trips.length d2) := by rw [hb6.cell (p := ⟨w.heap.size, 2, none⟩) (by dsimp only; omega)]; exact acell p2 _
            have q0 : w5.cell? ⟨w.heap.size + 1, 0, none⟩ = some (.slice fa f.dead.length fc) := by rw [hb6.cell (p := ⟨w.heap.size + 1, 0, none⟩) (by dsimp only; omega)]; exact acell q0 _
            have q1 : w5.cell? ⟨w.heap.size + 1, 1, none⟩ = some (.int .i64 f.turn) := by rw [hb6.cell (p := ⟨w.heap.size + 1, 1, none⟩) (by dsimp only; omega)]; exact acell q1 _
            rw [← spanC_append, ← HTk.out] at hown'
            obtain ⟨a6, c6, rfl⟩ := own_shape hown'
            have HR5 := Lib.hid hown'
            clear hown' hgrow hown0 hb6
            go_wp2_with fail
            go_roundw
            case rel => exact ⟨i + 1, c6, a6, by omega, by go_num, rfl, HR5, p0, p1, p2, q0, q1, HB5⟩
            case measure => simp [RowKit.intOf]; omega
        · go_simp
          obtain ⟨wua, hwA⟩ : ∃ wA : World, wA = (World.alloc wr (.cells #[.int .i64 0, .int .i64 0, .int .i64 0] 89)).drew := ⟨_, rfl⟩
          have rbw : Below wr.heap.size wr wua := by rw [hwA]; exact ((Below.refl _ _).alloc (Nat.le_refl _) _).drew
          have hS2 : wua.cell? ⟨w.heap.size, 0, none⟩ = some (.slice c0 t.net.stops.length d0) ∧ wua.cell? ⟨w.heap.size, 1, none⟩ = some (.slice c1 t.net.lines.length d1) ∧ wua.cell? ⟨w.heap.size, 2, none⟩ = some (.slice c2 t.trips.length d2) ∧ wua.cell? ⟨w.heap.size + 1, 0, none⟩ = some (.slice fa f.dead.length fc) ∧ wua.cell? ⟨w.heap.size + 1, 1, none⟩ = some (.int .i64 f.turn) ∧ wua.cell? ⟨pb, po, none⟩ = some (.int .i64 idp) ∧ wua.cell? ⟨pb, po + m, none⟩ = some (.int .i64 id) := ⟨bkeep rbw p0, bkeep rbw p1, bkeep rbw p2, bkeep rbw q0, bkeep rbw q1, bkeep rbw zP, bkeep rbw zK⟩
          have HBu1 : Hid (Below w.heap.size w wua ∧ w.heap.size + 2 ≤ wua.heap.size) := ⟨HB.out.1.trans (rbw.mono HB.out.1.size), Nat.le_trans HB.out.2 rbw.size⟩
          obtain ⟨bA, hbA⟩ : ∃ b, wr.heap.size = b := ⟨_, rfl⟩
          have HBxbAa : Hid (TripBox wua bA ⟨0, 0, 0⟩) := by rw [hwA, ← hbA]; exact ⟨by show World.cell? (World.alloc wr _) _ = _; go_simp, by show World.cell? (World.alloc wr _) _ = _; go_simp, by show World.cell? (World.alloc wr _) _ = _; go_simp, fun o => by show World.frozen? (World.alloc wr _) _ = _; go_simp⟩
          have hPBbA : pb < bA := by rw [← hbA]; exact World.block_lt_of_cell? _ _ zP
          have HLbA : Hid (w.heap.size + 2 ≤ bA) := by show _ ≤ _; have := HB.out.2; omega
          have HRbA : Hid (∀ g, (Value.slice sa i sc).ownBlock = some g → g ≠ bA) := fun g hg => by have := (HOwr.out.lt g hg).2; omega
          have HOwua := Lib.hid (own_later HOwr.out rbw)
          clear HOwr
          rw [← hwA]
          rw [hbA]
          clear rbw hwA
          refine hK.out _ _ hS2 (fun hH8 => ?_)
          obtain ⟨p0, p1, p2, q0, q1, zP, zK⟩ := hS2
          clear hK K
          try simp only [Act.put, List.setIfInBounds_toArray, List.set_cons_zero, List.set_cons_succ]
          refine wpAnyH_ready (rs := [4]) (by kernel_rfl) (by simp) ?_
          refine AllReadyH.cons (by simp only [List.getElem?_toArray, List.getElem?_cons_succ, List.getElem?_cons_zero]; rfl) (fun K hK => ?_) AllReadyH.nil
          go_simp
          go_at_call 62
          refine (HT1.out _ (HBu1.out.1)).mono ?_
          rintro e wub ⟨rfl, hb⟩
          have rbw : Below wua.heap.size wua wub := hb
          have hS2 : wub.cell? ⟨w.heap.size, 0, none⟩ = some (.slice c0 t.net.stops.length d0) ∧ wub.cell? ⟨w.heap.size, 1, none⟩ = some (.slice c1 t.net.lines.length d1) ∧ wub.cell? ⟨w.heap.size, 2, none⟩ = some (.slice c2 t.trips.length d2) ∧ wub.cell? ⟨w.heap.size + 1, 0, none⟩ = some (.slice fa f.dead.length fc) ∧ wub.cell? ⟨w.heap.size + 1, 1, none⟩ = some (.int .i64 f.turn) ∧ wub.cell? ⟨pb, po, none⟩ = some (.int .i64 idp) ∧ wub.cell? ⟨pb, po + m, none⟩ = some (.int .i64 id) := ⟨bkeep rbw p0, bkeep rbw p1, bkeep rbw p2, bkeep rbw q0, bkeep rbw q1, bkeep rbw zP, bkeep rbw zK⟩
          have HBu2 : Hid (Below w.heap.size w wub ∧ w.heap.size + 2 ≤ wub.heap.size) := ⟨HBu1.out.1.trans (rbw.mono HBu1.out.1.size), Nat.le_trans HBu1.out.2 rbw.size⟩
          have HOwub := Lib.hid (own_later HOwua.out rbw)
          clear HOwua
          have HBxbA := Lib.hid (HBxbAa.out.keep rbw)
          clear HBxbAa
          clear hb rbw
          go_wp2_with fail
          refine hK.out _ _ hS2 (fun hH4 => ?_)
          obtain ⟨p0, p1, p2, q0, q1, zP, zK⟩ := hS2
          clear hK K
          try simp only [Act.put, List.setIfInBounds_toArray, List.set_cons_zero, List.set_cons_succ]
          refine wpAnyH_take (i := 5) (v := ?_) (by simp only [List.getElem?_toArray, List.getElem?_cons_succ, List.getElem?_cons_zero]; rfl) (by kernel_rfl) (by kernel_rfl) (by kernel_rfl) (by exact fun _ _ _ h => h) (Or.inl ⟨by rfl, ?_⟩) (by assumption) ?_
          rotate_left
          · intro w' hSw; obtain ⟨e0, e1, e2, e3, e4, e5, e6⟩ := hSw
            go_simp; try with_reducible rfl
          try simp only [Act.put, List.setIfInBounds_toArray, List.set_cons_zero, List.set_cons_succ]
          refine wpAnyH_take (i := 6) (v := ?_) (by simp only [List.getElem?_toArray, List.getElem?_cons_succ, List.getElem?_cons_zero]; rfl) (by kernel_rfl) (by kernel_rfl) (by kernel_rfl) (by exact fun _ _ _ h => h) (Or.inl ⟨by rfl, ?_⟩) (by assumption) ?_
          rotate_left
          · intro w' hSw; obtain ⟨e0, e1, e2, e3, e4, e5, e6⟩ := hSw
            go_simp; try with_reducible rfl
          try simp only [Act.put, List.setIfInBounds_toArray, List.set_cons_zero, List.set_cons_succ]
          refine wpAnyH_take (i := 7) (v := ?_) (by simp only [List.getElem?_toArray, List.getElem?_cons_succ, List.getElem?_cons_zero]; rfl) (by kernel_rfl) (by kernel_rfl) (by kernel_rfl) (by exact fun _ _ _ h => h) (Or.inl ⟨by rfl, ?_⟩) (by assumption) ?_
          rotate_left
          · intro w' hSw; obtain ⟨e0, e1, e2, e3, e4, e5, e6⟩ := hSw
            go_simp; try with_reducible rfl
          try simp only [Act.put, List.setIfInBounds_toArray, List.set_cons_zero, List.set_cons_succ]
          refine wpAnyH_ready (rs := [9]) (by kernel_rfl) (by simp) ?_
          refine AllReadyH.cons (by simp only [List.getElem?_toArray, List.getElem?_cons_succ, List.getElem?_cons_zero]; rfl) (fun K hK => ?_) AllReadyH.nil
          have hb0 := HBxbA.out.c0
          have hb1 := HBxbA.out.c1
          have hb2 := HBxbA.out.c2
          have hbf := HBxbA.out.fz
          have hbl := HLbA.out
          go_simp
          obtain ⟨wuc, hwA⟩ : ∃ wA : World, wA = (((World.setCell wub ⟨bA, 0, none⟩ (.int .i64 xi)).setCell ⟨bA, 1, none⟩ (.int .i64 xl)).setCell ⟨bA, 2, none⟩ (.int .i64 xs)) := ⟨_, rfl⟩
          have hS2 : wuc.cell? ⟨w.heap.size, 0, none⟩ = some (.slice c0 t.net.stops.length d0) ∧ wuc.cell? ⟨w.heap.size, 1, none⟩ = some (.slice c1 t.net.lines.length d1) ∧ wuc.cell? ⟨w.heap.size, 2, none⟩ = some (.slice c2 t.trips.length d2) ∧ wuc.cell? ⟨w.heap.size + 1, 0, none⟩ = some (.slice fa f.dead.length fc) ∧ wuc.cell? ⟨w.heap.size + 1, 1, none⟩ = some (.int .i64 f.turn) ∧ wuc.cell? ⟨pb, po, none⟩ = some (.int .i64 idp) ∧ wuc.cell? ⟨pb, po + m, none⟩ = some (.int .i64 id) := by rw [hwA]; exact ⟨(set3_cell (by dsimp only; omega)).trans p0, (set3_cell (by dsimp only; omega)).trans p1, (set3_cell (by dsimp only; omega)).trans p2, (set3_cell (by dsimp only; omega)).trans q0, (set3_cell (by dsimp only; omega)).trans q1, (set3_cell (by dsimp only; omega)).trans zP, (set3_cell (by dsimp only; omega)).trans zK⟩
          have HBxbAc : Hid (TripBox wuc bA ⟨xi, xl, xs⟩) := by rw [hwA]; exact HBxbA.out.set _ _ _
          have HBu3 : Hid (Below w.heap.size w wuc ∧ w.heap.size + 2 ≤ wuc.heap.size) := by rw [hwA]; exact ⟨((HBu2.out.1.setCell (p := ⟨bA, 0, none⟩) (by dsimp only; omega) _).setCell (p := ⟨bA, 1, none⟩) (by dsimp only; omega) _).setCell (p := ⟨bA, 2, none⟩) (by dsimp only; omega) _, by simpa [World.setCell] using HBu2.out.2⟩
          have HOwuc : Hid (wuc.ownsRow (w.heap.size + 2) 104 2 (.slice sa i sc) i (spanC ((spansT t bs).take i))) := by show World.ownsRow _ _ _ _ _ _ _; rw [hwA]; exact own_other (own_other (own_other HOwub.out (fun e => HRbA.out _ e rfl) _) (fun e => HRbA.out _ e rfl) _) (fun e => HRbA.out _ e rfl) _
          clear HOwub
          rw [← hwA]
          clear hwA hb0 hb1 hb2 hbf
          refine hK.out _ _ hS2 (fun hH9 => ?_)
          obtain ⟨p0, p1, p2, q0, q1, zP, zK⟩ := hS2
          clear HBxbA HBu2
          clear hK K
          try simp only [Act.put, List.setIfInBounds_toArray, List.set_cons_zero, List.set_cons_succ]
          refine wpAnyH_take (i := 10) (v := ?_) (by simp only [List.getElem?_toArray, List.getElem?_cons_succ, List.getElem?_cons_zero]; rfl) (by kernel_rfl) (by kernel_rfl) (by kernel_rfl) (by exact fun _ _ _ h => h) (Or.inl ⟨by rfl, ?_⟩) (by assumption) ?_
          rotate_left
          · intro w' hSw; obtain ⟨e0, e1, e2, e3, e4, e5, e6⟩ := hSw
            go_simp; try with_reducible rfl
          try simp only [Act.put, List.setIfInBounds_toArray, List.set_cons_zero, List.set_cons_succ]
          refine wpAnyH_done (by kernel_rfl) ?_ _
          have x0 := HBxbAc.out.c0
          have x1 := HBxbAc.out.c1
          have x2 := HBxbAc.out.c2
          simp only at x0 x1 x2
          have hbA2 := HLbA.out
          clear HBxbAc
          go_upto_region 8 with fail
          refine wp_region_held_drew (S := (fun w' => w'.cell? ⟨w.heap.size, 0, none⟩ = some (.slice c0 t.net.stops.length d0) ∧ w'.cell? ⟨w.heap.size, 1, none⟩ = some (.slice c1 t.net.lines.length d1) ∧ w'.cell? ⟨w.heap.size, 2, none⟩ = some (.slice c2 t.trips.length d2) ∧ w'.cell? ⟨w.heap.size + 1, 0, none⟩ = some (.slice fa f.dead.length fc) ∧ w'.cell? ⟨w.heap.size + 1, 1, none⟩ = some (.int .i64 f.turn) ∧ w'.cell? ⟨pb, po, none⟩ = some (.int .i64 idp) ∧ w'.cell? ⟨pb, po + m, none⟩ = some (.int .i64 id) ∧ w'.cell? ⟨bA, 0, none⟩ = some (.int .i64 xi) ∧ w'.cell? ⟨bA, 1, none⟩ = some (.int .i64 xl) ∧ w'.cell? ⟨bA, 2, none⟩ = some (.int .i64 xs))) (by kernel_rfl) ?_ (fun hHeld => ?_)
          · exact ⟨p0, p1, p2, q0, q1, zP, zK, x0, x1, x2⟩
          refine wpAnyH_take (i := 0) (v := ?_) (by simp only [List.getElem?_toArray, List.getElem?_cons_zero]; rfl) (by kernel_rfl) (by kernel_rfl) (by kernel_rfl) (by exact fun _ _ _ h => h) (Or.inl ⟨by rfl, ?_⟩) (by assumption) ?_
          rotate_left
          · intro w' hSw; obtain ⟨e0, e1, e2, e3, e4, e5, e6, e7, e8, e9⟩ := hSw
            go_simp; try with_reducible rfl
          try simp only [Act.put, List.setIfInBounds_toArray, List.set_cons_zero, List.set_cons_succ]
          refine wpAnyH_take (i := 1) (v := ?_) (by simp only [List.getElem?_toArray, List.getElem?_cons_succ, List.getElem?_cons_zero]; rfl) (by kernel_rfl) (by kernel_rfl) (by kernel_rfl) (by exact fun _ _ _ h => h) (Or.inl ⟨by rfl, ?_⟩) (by assumption) ?_
          rotate_left
          · intro w' hSw; obtain ⟨e0, e1, e2, e3, e4, e5, e6, e7, e8, e9⟩ := hSw
            go_simp; try with_reducible rfl
          try simp only [Act.put, List.setIfInBounds_toArray, List.set_cons_zero, List.set_cons_succ]
          refine wpAnyH_take (i := 2) (v := ?_) (by simp only [List.getElem?_toArray, List.getElem?_cons_succ, List.getElem?_cons_zero]; rfl) (by kernel_rfl) (by kernel_rfl) (by kernel_rfl) (by exact fun _ _ _ h => h) (Or.inl ⟨by rfl, ?_⟩) (by assumption) ?_
          rotate_left
          · intro w' hSw; obtain ⟨e0, e1, e2, e3, e4, e5, e6, e7, e8, e9⟩ := hSw
            go_simp; try with_reducible rfl
          try simp only [Act.put, List.setIfInBounds_toArray, List.set_cons_zero, List.set_cons_succ]
          refine wpAnyH_take (i := 3) (v := ?_) (by simp only [List.getElem?_toArray, List.getElem?_cons_succ, List.getElem?_cons_zero]; rfl) (by kernel_rfl) (by kernel_rfl) (by kernel_rfl) (by exact fun _ _ _ h => h) (Or.inl ⟨by rfl, ?_⟩) (by assumption) ?_
          rotate_left
          · intro w' hSw; obtain ⟨e0, e1, e2, e3, e4, e5, e6, e7, e8, e9⟩ := hSw
            go_simp; try with_reducible rfl
          try simp only [Act.put, List.setIfInBounds_toArray, List.set_cons_zero, List.set_cons_succ]
          refine wpAnyH_take (i := 4) (v := ?_) (by simp only [List.getElem?_toArray, List.getElem?_cons_succ, List.getElem?_cons_zero]; rfl) (by kernel_rfl) (by kernel_rfl) (by kernel_rfl) (by exact fun _ _ _ h => h) (Or.inl ⟨by rfl, ?_⟩) (by assumption) ?_
          rotate_left
          · intro w' hSw; obtain ⟨e0, e1, e2, e3, e4, e5, e6, e7, e8, e9⟩ := hSw
            go_simp; try with_reducible rfl
          try simp only [Act.put, List.setIfInBounds_toArray, List.set_cons_zero, List.set_cons_succ]
          refine wpAnyH_take (i := 5) (v := ?_) (by simp only [List.getElem?_toArray, List.getElem?_cons_succ, List.getElem?_cons_zero]; rfl) (by kernel_rfl) (by kernel_rfl) (by kernel_rfl) (by exact fun _ _ _ h => h) (Or.inl ⟨by rfl, ?_⟩) (by assumption) ?_
          rotate_left
          · intro w' hSw; obtain ⟨e0, e1, e2, e3, e4, e5, e6, e7, e8, e9⟩ := hSw
            go_simp; try with_reducible rfl
          try simp only [Act.put, List.setIfInBounds_toArray, List.set_cons_zero, List.set_cons_succ]
          refine wpAnyH_take (i := 6) (v := ?_) (by simp only [List.getElem?_toArray, List.getElem?_cons_succ, List.getElem?_cons_zero]; rfl) (by kernel_rfl) (by kernel_rfl) (by kernel_rfl) (by exact fun _ _ _ h => h) (Or.inl ⟨by rfl, ?_⟩) (by assumption) ?_
          rotate_left
          · intro w' hSw; obtain ⟨e0, e1, e2, e3, e4, e5, e6, e7, e8, e9⟩ := hSw
            go_simp; try with_reducible rfl
          try simp only [Act.put, List.setIfInBounds_toArray, List.set_cons_zero, List.set_cons_succ]
          refine wpAnyH_ready (rs := [7, 11]) (by kernel_rfl) (by simp) ?_
          refine AllReadyH.cons (by simp only [List.getElem?_toArray, List.getElem?_cons_succ, List.getElem?_cons_zero]; rfl) (fun K hK => ?_) (AllReadyH.cons (by simp only [List.getElem?_toArray, List.getElem?_cons_succ, List.getElem?_cons_zero]; rfl) (fun K hK => ?_) AllReadyH.nil)
          · go_simp
            go_at_call 62
            refine (HT2.out _ (HBu3.out.1.drew)).mono ?_
            rintro e wva ⟨rfl, hb⟩
            have rbw : Below wuc.heap.size wuc wva := (Below.refl _ _).drew.trans hb
            have hS2 : wva.cell? ⟨w.heap.size, 0, none⟩ = some (.slice c0 t.net.stops.length d0) ∧ wva.cell? ⟨w.heap.size, 1, none⟩ = some (.slice c1 t.net.lines.length d1) ∧ wva.cell? ⟨w.heap.size, 2, none⟩ = some (.slice c2 t.trips.length d2) ∧ wva.cell? ⟨w.heap.size + 1, 0, none⟩ = some (.slice fa f.dead.length fc) ∧ wva.cell? ⟨w.heap.size + 1, 1, none⟩ = some (.int .i64 f.turn) ∧ wva.cell? ⟨pb, po, none⟩ = some (.int .i64 idp) ∧ wva.cell? ⟨pb, po + m, none⟩ = some (.int .i64 id) ∧ wva.cell? ⟨bA, 0, none⟩ = some (.int .i64 xi) ∧ wva.cell? ⟨bA, 1, none⟩ = some (.int .i64 xl) ∧ wva.cell? ⟨bA, 2, none⟩ = some (.int .i64 xs) := ⟨bkeep rbw p0, bkeep rbw p1, bkeep rbw p2, bkeep rbw q0, bkeep rbw q1, bkeep rbw zP, bkeep rbw zK, bkeep rbw x0, bkeep rbw x1, bkeep rbw x2⟩
            have HBv1 : Hid (Below w.heap.size w wva ∧ w.heap.size + 2 ≤ wva.heap.size) := ⟨HBu3.out.1.trans (rbw.mono HBu3.out.1.size), Nat.le_trans HBu3.out.2 rbw.size⟩
            have HOwva := Lib.hid (own_later HOwuc.out rbw)
            clear HOwuc
            clear hb rbw
            go_wp2_with fail
            refine hK.out _ _ hS2 (fun hH7 => ?_)
            obtain ⟨p0, p1, p2, q0, q1, zP, zK, x0, x1, x2⟩ := hS2
            clear hK K
            try simp only [Act.put, List.setIfInBounds_toArray, List.set_cons_zero, List.set_cons_succ]
            refine wpAnyH_take (i := 8) (v := ?_) (by simp only [List.getElem?_toArray, List.getElem?_cons_succ, List.getElem?_cons_zero]; rfl) (by kernel_rfl) (by kernel_rfl) (by kernel_rfl) (by exact fun _ _ _ h => h) (Or.inl ⟨by rfl, ?_⟩) (by assumption) ?_
            rotate_left
            · intro w' hSw; obtain ⟨e0, e1, e2, e3, e4, e5, e6, e7, e8, e9⟩ := hSw
              go_simp; try with_reducible rfl
            try simp only [Act.put, List.setIfInBounds_toArray, List.set_cons_zero, List.set_cons_succ]
            refine wpAnyH_take (i := 9) (v := ?_) (by simp only [List.getElem?_toArray, List.getElem?_cons_succ, List.getElem?_cons_zero]; rfl) (by kernel_rfl) (by kernel_rfl) (by kernel_rfl) (by exact fun _ _ _ h => h) (Or.inl ⟨by rfl, ?_⟩) (by assumption) ?_
            rotate_left
            · intro w' hSw; obtain ⟨e0, e1, e2, e3, e4, e5, e6, e7, e8, e9⟩ := hSw
              go_simp; try with_reducible rfl
            try simp only [Act.put, List.setIfInBounds_toArray, List.set_cons_zero, List.set_cons_succ]
            refine wpAnyH_take (i := 10) (v := ?_) (by simp only [List.getElem?_toArray, List.getElem?_cons_succ, List.getElem?_cons_zero]; rfl) (by kernel_rfl) (by kernel_rfl) (by kernel_rfl) (by exact fun _ _ _ h => h) (Or.inl ⟨by rfl, ?_⟩) (by assumption) ?_
            rotate_left
            · intro w' hSw; obtain ⟨e0, e1, e2, e3, e4, e5, e6, e7, e8, e9⟩ := hSw
              go_simp; try with_reducible rfl
            try simp only [Act.put, List.setIfInBounds_toArray, List.set_cons_zero, List.set_cons_succ]
            refine wpAnyH_ready (rs := [11]) (by kernel_rfl) (by simp) ?_
            refine AllReadyH.cons (by simp only [List.getElem?_toArray, List.getElem?_cons_succ, List.getElem?_cons_zero]; rfl) (fun K hK => ?_) AllReadyH.nil
            go_simp
            obtain ⟨wvb, hwA⟩ : ∃ wA : World, wA = (World.alloc wva (.cells #[.int .i64 0, .int .i64 0, .int .i64 0] 89)) := ⟨_, rfl⟩
            have rbw : Below wva.heap.size wva wvb := by rw [hwA]; exact ((Below.refl _ _).alloc (Nat.le_refl _) _)
            have hS2 : wvb.cell? ⟨w.heap.size, 0, none⟩ = some (.slice c0 t.net.stops.length d0) ∧ wvb.cell? ⟨w.heap.size, 1, none⟩ = some (.slice c1 t.net.lines.length d1) ∧ wvb.cell? ⟨w.heap.size, 2, none⟩ = some (.slice c2 t.trips.length d2) ∧ wvb.cell? ⟨w.heap.size + 1, 0, none⟩ = some (.slice fa f.dead.length fc) ∧ wvb.cell? ⟨w.heap.size + 1, 1, none⟩ = some (.int .i64 f.turn) ∧ wvb.cell? ⟨pb, po, none⟩ = some (.int .i64 idp) ∧ wvb.cell? ⟨pb, po + m, none⟩ = some (.int .i64 id) ∧ wvb.cell? ⟨bA, 0, none⟩ = some (.int .i64 xi) ∧ wvb.cell? ⟨bA, 1, none⟩ = some (.int .i64 xl) ∧ wvb.cell? ⟨bA, 2, none⟩ = some (.int .i64 xs) := ⟨bkeep rbw p0, bkeep rbw p1, bkeep rbw p2, bkeep rbw q0, bkeep rbw q1, bkeep rbw zP, bkeep rbw zK, bkeep rbw x0, bkeep rbw x1, bkeep rbw x2⟩
            have HBv2 : Hid (Below w.heap.size w wvb ∧ w.heap.size + 2 ≤ wvb.heap.size) := ⟨HBv1.out.1.trans (rbw.mono HBv1.out.1.size), Nat.le_trans HBv1.out.2 rbw.size⟩
            obtain ⟨bB, hbB⟩ : ∃ b, wva.heap.size = b := ⟨_, rfl⟩
            have HBxbB : Hid (TripBox wvb bB ⟨0, 0, 0⟩) := by rw [hwA, ← hbB]; exact ⟨by show World.cell? (World.alloc wva _) _ = _; go_simp, by show World.cell? (World.alloc wva _) _ = _; go_simp, by show World.cell? (World.alloc wva _) _ = _; go_simp, fun o => by show World.frozen? (World.alloc wva _) _ = _; go_simp⟩
            have hPBbB : pb < bB := by rw [← hbB]; exact World.block_lt_of_cell? _ _ zP
            have HLbB : Hid (w.heap.size + 2 ≤ bB) := by show _ ≤ _; have := HBv1.out.2; omega
            have hAB : bA < bB := by rw [← hbB]; exact World.block_lt_of_cell? _ _ x0
            have HRbB : Hid (∀ g, (Value.slice sa i sc).ownBlock = some g → g ≠ bB) := fun g hg => by have := (HOwva.out.lt g hg).2; omega
            have HOwvb := Lib.hid (own_later HOwva.out rbw)
            clear HOwva
            rw [← hwA]
            rw [hbB]
            clear rbw hwA
            refine hK.out _ _ hS2 (fun hH11 => ?_)
            obtain ⟨p0, p1, p2, q0, q1, zP, zK, x0, x1, x2⟩ := hS2
            clear hK K
            try simp only [Act.put, List.setIfInBounds_toArray, List.set_cons_zero, List.set_cons_succ]
            refine wpAnyH_ready (rs := [12]) (by kernel_rfl) (by simp) ?_
            refine AllReadyH.cons (by simp only [List.getElem?_toArray, List.getElem?_cons_succ, List.getElem?_cons_zero]; rfl) (fun K hK => ?_) AllReadyH.nil
            have hb0 := HBxbB.out.c0
            have hb1 := HBxbB.out.c1
            have hb2 := HBxbB.out.c2
            have hbf := HBxbB.out.fz
            have hbl := HLbB.out
            go_simp
            obtain ⟨wvc, hwA⟩ : ∃ wA : World, wA = (((World.setCell wvb ⟨bB, 0, none⟩ (.int .i64 yi)).setCell ⟨bB, 1, none⟩ (.int .i64 yl)).setCell ⟨bB, 2, none⟩ (.int .i64 ys)) := ⟨_, rfl⟩
            have hS2 : wvc.cell? ⟨w.heap.size, 0, none⟩ = some (.slice c0 t.net.stops.length d0) ∧ wvc.cell? ⟨w.heap.size, 1, none⟩ = some (.slice c1 t.net.lines.length d1) ∧ wvc.cell? ⟨w.heap.size, 2, none⟩ = some (.slice c2 t.trips.length d2) ∧ wvc.cell? ⟨w.heap.size + 1, 0, none⟩ = some (.slice fa f.dead.length fc) ∧ wvc.cell? ⟨w.heap.size + 1, 1, none⟩ = some (.int .i64 f.turn) ∧ wvc.cell? ⟨pb, po, none⟩ = some (.int .i64 idp) ∧ wvc.cell? ⟨pb, po + m, none⟩ = some (.int .i64 id) ∧ wvc.cell? ⟨bA, 0, none⟩ = some (.int .i64 xi) ∧ wvc.cell? ⟨bA, 1, none⟩ = some (.int .i64 xl) ∧ wvc.cell? ⟨bA, 2, none⟩ = some (.int .i64 xs) := by rw [hwA]; exact ⟨(set3_cell (by dsimp only; omega)).trans p0, (set3_cell (by dsimp only; omega)).trans p1, (set3_cell (by dsimp only; omega)).trans p2, (set3_cell (by dsimp only; omega)).trans q0, (set3_cell (by dsimp only; omega)).trans q1, (set3_cell (by dsimp only; omega)).trans zP, (set3_cell (by dsimp only; omega)).trans zK, (set3_cell (by dsimp only; omega)).trans x0, (set3_cell (by dsimp only; omega)).trans x1, (set3_cell (by dsimp only; omega)).trans x2⟩
            have HBxbBc : Hid (TripBox wvc bB ⟨yi, yl, ys⟩) := by rw [hwA]; exact HBxbB.out.set _ _ _
            have HBv3 : Hid (Below w.heap.size w wvc ∧ w.heap.size + 2 ≤ wvc.heap.size) := by rw [hwA]; exact ⟨((HBv2.out.1.setCell (p := ⟨bB, 0, none⟩) (by dsimp only; omega) _).setCell (p := ⟨bB, 1, none⟩) (by dsimp only; omega) _).setCell (p := ⟨bB, 2, none⟩) (by dsimp only; omega) _, by simpa [World.setCell] using HBv2.out.2⟩
            have HOwvc : Hid (wvc.ownsRow (w.heap.size + 2) 104 2 (.slice sa i sc) i (spanC ((spansT t bs).take i))) := by show World.ownsRow _ _ _ _ _ _ _; rw [hwA]; exact own_other (own_other (own_other HOwvb.out (fun e => HRbB.out _ e rfl) _) (fun e => HRbB.out _ e rfl) _) (fun e => HRbB.out _ e rfl) _
            clear HOwvb
            rw [← hwA]
            clear hwA hb0 hb1 hb2 hbf
            refine hK.out _ _ hS2 (fun hH12 => ?_)
            obtain ⟨p0, p1, p2, q0, q1, zP, zK, x0, x1, x2⟩ := hS2
            clear HBxbB HBv2
            clear hK K
            try simp only [Act.put, List.setIfInBounds_toArray, List.set_cons_zero, List.set_cons_succ]
            refine wpAnyH_take (i := 13) (v := ?_) (by simp only [List.getElem?_toArray, List.getElem?_cons_succ, List.getElem?_cons_zero]; rfl) (by kernel_rfl) (by kernel_rfl) (by kernel_rfl) (by exact fun _ _ _ h => h) (Or.inl ⟨by rfl, ?_⟩) (by assumption) ?_
            rotate_left
            · intro w' hSw; obtain ⟨e0, e1, e2, e3, e4, e5, e6, e7, e8, e9⟩ := hSw
              go_simp; try with_reducible rfl
            try simp only [Act.put, List.setIfInBounds_toArray, List.set_cons_zero, List.set_cons_succ]
            refine wpAnyH_done (by kernel_rfl) ?_ _
            have y0 := HBxbBc.out.c0
            have y1 := HBxbBc.out.c1
            have y2 := HBxbBc.out.c2
            have HB9 := HBv3
            clear HBxbBc HT1 HT2
            go_wp2_with fail
            go_at_call 75
            refine (HD.out _ HB9.out.1).mono ?_
            rintro e w9 ⟨rfl, hb9⟩
            have HB10 : Hid (Below w.heap.size w w9 ∧ w.heap.size + 2 ≤ w9.heap.size) := ⟨HB9.out.1.trans (hb9.mono HB9.out.1.size), Nat.le_trans HB9.out.2 hb9.size⟩
            have HO9 := Lib.hid (own_later HOwvc.out hb9)
            have hz9 := HB10.out.2
            have p0 := bkeep hb9 p0
            have p1 := bkeep hb9 p1
            have p2 := bkeep hb9 p2
            have q0 := bkeep hb9 q0
            have q1 := bkeep hb9 q1
            clear hb9 x0 x1 x2 y0 y1 y2 zP zK HOwvc
            go_wp2_with (at_builtin; refine wpList_append_own _ rfl _ _ 63 rfl (w.heap.size + 2) 104 i0 (.agg #[.int .i64 0, .int .i64 0]) 2 16 Try.underlying63 hi0 iz0 iz1 iz2 rfl (by decide) _ _ _ rfl (HO9.out.alloc _) ⟨w9.heap.size, 0, none⟩ 1 1 (spanC [(xs, A)]) rfl rfl ?c1 ?c2 ?c3 ?c4 ?c5 ?_)
            case c1 => exact spanC_one _ _ _
            case c2 => exact spanC_cells _
            case c3 => unfold maxLen; omega
            case c4 => omega
            case c5 => simp; omega
            intro v' w5 hown' hgrow _
            have hown0 := HO9.out
            have HB5 : Hid (Below w.heap.size w w5 ∧ w.heap.size + 2 ≤ w5.heap.size) := ⟨(HB10.out.1.alloc (by omega) _).grown hgrow (by simp; omega) (fun g hg => by have := (hown0.lt g hg).1; omega), by have := hgrow.size; simp at this; omega⟩
            have hb6 : Below (w.heap.size + 2) (w9.alloc (.cells #[.int .i64 xs, .int .i64 A] 104)) w5 := (Below.refl _ _).grown hgrow (by simp; omega) (fun g hg => (hown0.lt g hg).1)
            have p0 : w5.cell? ⟨w.heap.size, 0, none⟩ = some (.slice c0 t.net.stops.length d0) := by rw [hb6.cell (p := ⟨w.heap.size, 0, none⟩) (by dsimp only; omega)]; exact acell p0 _
            have p1 : w5.cell? ⟨w.heap.size, 1, none⟩ = some (.slice c1 t.net.lines.length d1) := by rw [hb6.cell (p := ⟨w.heap.size, 1, none⟩) (by dsimp only; omega)]; exact acell p1 _
            have p2 : w5.cell? ⟨w.heap.size, 2, none⟩ = some (.slice c2 t.trips.length d2) := by rw [hb6.cell (p := ⟨w.heap.size, 2, none⟩) (by dsimp only; omega)]; exact acell p2 _
            have q0 : w5.cell? ⟨w.heap.size + 1, 0, none⟩ = some (.slice fa f.dead.length fc) := by rw [hb6.cell (p := ⟨w.heap.size + 1, 0, none⟩) (by dsimp only; omega)]; exact acell q0 _
            have q1 : w5.cell? ⟨w.heap.size + 1, 1, none⟩ = some (.int .i64 f.turn) := by rw [hb6.cell (p := ⟨w.heap.size + 1, 1, none⟩) (by dsimp only; omega)]; exact acell q1 _
            rw [← spanC_append, ← HTk.out] at hown'
            obtain ⟨a6, c6, rfl⟩ := own_shape hown'
            have HR5 := Lib.hid hown'
            clear hown' hgrow hown0 hb6
            go_wp2_with fail
            go_roundw
            case rel => exact ⟨i + 1, c6, a6, by omega, by go_num, rfl, HR5, p0, p1, p2, q0, q1, HB5⟩
            case measure => simp [RowKit.intOf]; omega
          · go_simp
            obtain ⟨wva, hwA⟩ : ∃ wA : World, wA = (World.alloc wuc (.cells #[.int .i64 0, .int .i64 0, .int .i64 0] 89)).drew := ⟨_, rfl⟩
            have rbw : Below wuc.heap.size wuc wva := by rw [hwA]; exact ((Below.refl _ _).alloc (Nat.le_refl _) _).drew
            have hS2 : wva.cell? ⟨w.heap.size, 0, none⟩ = some (.slice c0 t.net.stops.length d0) ∧ wva.cell? ⟨w.heap.size, 1, none⟩ = some (.slice c1 t.net.lines.length d1) ∧ wva.cell? ⟨w.heap.size, 2, none⟩ = some (.slice c2 t.trips.length d2) ∧ wva.cell? ⟨w.heap.size + 1, 0, none⟩ = some (.slice fa f.dead.length fc) ∧ wva.cell? ⟨w.heap.size + 1, 1, none⟩ = some (.int .i64 f.turn) ∧ wva.cell? ⟨pb, po, none⟩ = some (.int .i64 idp) ∧ wva.cell? ⟨pb, po + m, none⟩ = some (.int .i64 id) ∧ wva.cell? ⟨bA, 0, none⟩ = some (.int .i64 xi) ∧ wva.cell? ⟨bA, 1, none⟩ = some (.int .i64 xl) ∧ wva.cell? ⟨bA, 2, none⟩ = some (.int .i64 xs) := ⟨bkeep rbw p0, bkeep rbw p1, bkeep rbw p2, bkeep rbw q0, bkeep rbw q1, bkeep rbw zP, bkeep rbw zK, bkeep rbw x0, bkeep rbw x1, bkeep rbw x2⟩
            have HBv1 : Hid (Below w.heap.size w wva ∧ w.heap.size + 2 ≤ wva.heap.size) := ⟨HBu3.out.1.trans (rbw.mono HBu3.out.1.size), Nat.le_trans HBu3.out.2 rbw.size⟩
            obtain ⟨bB, hbB⟩ : ∃ b, wuc.heap.size = b := ⟨_, rfl⟩
            have HBxbBa : Hid (TripBox wva bB ⟨0, 0, 0⟩) := by rw [hwA, ← hbB]; exact ⟨by show World.cell? (World.alloc wuc _) _ = _; go_simp, by show World.cell? (World.alloc wuc _) _ = _; go_simp, by show World.cell? (World.alloc wuc _) _ = _; go_simp, fun o => by show World.frozen? (World.alloc wuc _) _ = _; go_simp⟩
            have hPBbB : pb < bB := by rw [← hbB]; exact World.block_lt_of_cell? _ _ zP
            have HLbB : Hid (w.heap.size + 2 ≤ bB) := by show _ ≤ _; have := HBu3.out.2; omega
            have hAB : bA < bB := by rw [← hbB]; exact World.block_lt_of_cell? _ _ x0
            have HRbB : Hid (∀ g, (Value.slice sa i sc).ownBlock = some g → g ≠ bB) := fun g hg => by have := (HOwuc.out.lt g hg).2; omega
            have HOwva := Lib.hid (own_later HOwuc.out rbw)
            clear HOwuc
            rw [← hwA]
            rw [hbB]
            clear rbw hwA
            refine hK.out _ _ hS2 (fun hH11 => ?_)
            obtain ⟨p0, p1, p2, q0, q1, zP, zK, x0, x1, x2⟩ := hS2
            clear hK K
            try simp only [Act.put, List.setIfInBounds_toArray, List.set_cons_zero, List.set_cons_succ]
            refine wpAnyH_ready (rs := [7]) (by kernel_rfl) (by simp) ?_
            refine AllReadyH.cons (by simp only [List.getElem?_toArray, List.getElem?_cons_succ, List.getElem?_cons_zero]; rfl) (fun K hK => ?_) AllReadyH.nil
            go_simp
            go_at_call 62
            refine (HT2.out _ (HBv1.out.1)).mono ?_
            rintro e wvb ⟨rfl, hb⟩
            have rbw : Below wva.heap.size wva wvb := hb
            have hS2 : wvb.cell? ⟨w.heap.size, 0, none⟩ = some (.slice c0 t.net.stops.length d0) ∧ wvb.cell? ⟨w.heap.size, 1, none⟩ = some (.slice c1 t.net.lines.length d1) ∧ wvb.cell? ⟨w.heap.size, 2, none⟩ = some (.slice c2 t.trips.length d2) ∧ wvb.cell? ⟨w.heap.size + 1, 0, none⟩ = some (.slice fa f.dead.length fc) ∧ wvb.cell? ⟨w.heap.size + 1, 1, none⟩ = some (.int .i64 f.turn) ∧ wvb.cell? ⟨pb, po, none⟩ = some (.int .i64 idp) ∧ wvb.cell? ⟨pb, po + m, none⟩ = some (.int .i64 id) ∧ wvb.cell? ⟨bA, 0, none⟩ = some (.int .i64 xi) ∧ wvb.cell? ⟨bA, 1, none⟩ = some (.int .i64 xl) ∧ wvb.cell? ⟨bA, 2, none⟩ = some (.int .i64 xs) := ⟨bkeep rbw p0, bkeep rbw p1, bkeep rbw p2, bkeep rbw q0, bkeep rbw q1, bkeep rbw zP, bkeep rbw zK, bkeep rbw x0, bkeep rbw x1, bkeep rbw x2⟩
            have HBv2 : Hid (Below w.heap.size w wvb ∧ w.heap.size + 2 ≤ wvb.heap.size) := ⟨HBv1.out.1.trans (rbw.mono HBv1.out.1.size), Nat.le_trans HBv1.out.2 rbw.size⟩
            have HOwvb := Lib.hid (own_later HOwva.out rbw)
            clear HOwva
            have HBxbB := Lib.hid (HBxbBa.out.keep rbw)
            clear HBxbBa
            clear hb rbw
            go_wp2_with fail
            refine hK.out _ _ hS2 (fun hH7 => ?_)
            obtain ⟨p0, p1, p2, q0, q1, zP, zK, x0, x1, x2⟩ := hS2
            clear hK K
            try simp only [Act.put, List.setIfInBounds_toArray, List.set_cons_zero, List.set_cons_succ]
            refine wpAnyH_take (i := 8) (v := ?_) (by simp only [List.getElem?_toArray, List.getElem?_cons_succ, List.getElem?_cons_zero]; rfl) (by kernel_rfl) (by kernel_rfl) (by kernel_rfl) (by exact fun _ _ _ h => h) (Or.inl ⟨by rfl, ?_⟩) (by assumption) ?_
            rotate_left
            · intro w' hSw; obtain ⟨e0, e1, e2, e3, e4, e5, e6, e7, e8, e9⟩ := hSw
              go_simp; try with_reducible rfl
            try simp only [Act.put, List.setIfInBounds_toArray, List.set_cons_zero, List.set_cons_succ]
            refine wpAnyH_take (i := 9) (v := ?_) (by simp only [List.getElem?_toArray, List.getElem?_cons_succ, List.getElem?_cons_zero]; rfl) (by kernel_rfl) (by kernel_rfl) (by kernel_rfl) (by exact fun _ _ _ h => h) (Or.inl ⟨by rfl, ?_⟩) (by assumption) ?_
            rotate_left
            · intro w' hSw; obtain ⟨e0, e1, e2, e3, e4, e5, e6, e7, e8, e9⟩ := hSw
              go_simp; try with_reducible rfl
            try simp only [Act.put, List.setIfInBounds_toArray, List.set_cons_zero, List.set_cons_succ]
            refine wpAnyH_take (i := 10) (v := ?_) (by simp only [List.getElem?_toArray, List.getElem?_cons_succ, List.getElem?_cons_zero]; rfl) (by kernel_rfl) (by kernel_rfl) (by kernel_rfl) (by exact fun _ _ _ h => h) (Or.inl ⟨by rfl, ?_⟩) (by assumption) ?_
            rotate_left
            · intro w' hSw; obtain ⟨e0, e1, e2, e3, e4, e5, e6, e7, e8, e9⟩ := hSw
              go_simp; try with_reducible rfl
            try simp only [Act.put, List.setIfInBounds_toArray, List.set_cons_zero, List.set_cons_succ]
            refine wpAnyH_ready (rs := [12]) (by kernel_rfl) (by simp) ?_
            refine AllReadyH.cons (by simp only [List.getElem?_toArray, List.getElem?_cons_succ, List.getElem?_cons_zero]; rfl) (fun K hK => ?_) AllReadyH.nil
            have hb0 := HBxbB.out.c0
            have hb1 := HBxbB.out.c1
            have hb2 := HBxbB.out.c2
            have hbf := HBxbB.out.fz
            have hbl := HLbB.out
            go_simp
            obtain ⟨wvc, hwA⟩ : ∃ wA : World, wA = (((World.setCell wvb ⟨bB, 0, none⟩ (.int .i64 yi)).setCell ⟨bB, 1, none⟩ (.int .i64 yl)).setCell ⟨bB, 2, none⟩ (.int .i64 ys)) := ⟨_, rfl⟩
            have hS2 : wvc.cell? ⟨w.heap.size, 0, none⟩ = some (.slice c0 t.net.stops.length d0) ∧ wvc.cell? ⟨w.heap.size, 1, none⟩ = some (.slice c1 t.net.lines.length d1) ∧ wvc.cell? ⟨w.heap.size, 2, none⟩ = some (.slice c2 t.trips.length d2) ∧ wvc.cell? ⟨w.heap.size + 1, 0, none⟩ = some (.slice fa f.dead.length fc) ∧ wvc.cell? ⟨w.heap.size + 1, 1, none⟩ = some (.int .i64 f.turn) ∧ wvc.cell? ⟨pb, po, none⟩ = some (.int .i64 idp) ∧ wvc.cell? ⟨pb, po + m, none⟩ = some (.int .i64 id) ∧ wvc.cell? ⟨bA, 0, none⟩ = some (.int .i64 xi) ∧ wvc.cell? ⟨bA, 1, none⟩ = some (.int .i64 xl) ∧ wvc.cell? ⟨bA, 2, none⟩ = some (.int .i64 xs) := by rw [hwA]; exact ⟨(set3_cell (by dsimp only; omega)).trans p0, (set3_cell (by dsimp only; omega)).trans p1, (set3_cell (by dsimp only; omega)).trans p2, (set3_cell (by dsimp only; omega)).trans q0, (set3_cell (by dsimp only; omega)).trans q1, (set3_cell (by dsimp only; omega)).trans zP, (set3_cell (by dsimp only; omega)).trans zK, (set3_cell (by dsimp only; omega)).trans x0, (set3_cell (by dsimp only; omega)).trans x1, (set3_cell (by dsimp only; omega)).trans x2⟩
            have HBxbBc : Hid (TripBox wvc bB ⟨yi, yl, ys⟩) := by rw [hwA]; exact HBxbB.out.set _ _ _
            have HBv3 : Hid (Below w.heap.size w wvc ∧ w.heap.size + 2 ≤ wvc.heap.size) := by rw [hwA]; exact ⟨((HBv2.out.1.setCell (p := ⟨bB, 0, none⟩) (by dsimp only; omega) _).setCell (p := ⟨bB, 1, none⟩) (by dsimp only; omega) _).setCell (p := ⟨bB, 2, none⟩) (by dsimp only; omega) _, by simpa [World.setCell] using HBv2.out.2⟩
            have HOwvc : Hid (wvc.ownsRow (w.heap.size + 2) 104 2 (.slice sa i sc) i (spanC ((spansT t bs).take i))) := by show World.ownsRow _ _ _ _ _ _ _; rw [hwA]; exact own_other (own_other (own_other HOwvb.out (fun e => HRbB.out _ e rfl) _) (fun e => HRbB.out _ e rfl) _) (fun e => HRbB.out _ e rfl) _
            clear HOwvb
            rw [← hwA]
            clear hwA hb0 hb1 hb2 hbf
            refine hK.out _ _ hS2 (fun hH12 => ?_)
            obtain ⟨p0, p1, p2, q0, q1, zP, zK, x0, x1, x2⟩ := hS2
            clear HBxbB HBv2
            clear hK K
            try simp only [Act.put, List.setIfInBounds_toArray, List.set_cons_zero, List.set_cons_succ]
            refine wpAnyH_take (i := 13) (v := ?_) (by simp only [List.getElem?_toArray, List.getElem?_cons_succ, List.getElem?_cons_zero]; rfl) (by kernel_rfl) (by kernel_rfl) (by kernel_rfl) (by exact fun _ _ _ h => h) (Or.inl ⟨by rfl, ?_⟩) (by assumption) ?_
            rotate_left
            · intro w' hSw; obtain ⟨e0, e1, e2, e3, e4, e5, e6, e7, e8, e9⟩ := hSw
              go_simp; try with_reducible rfl
            try simp only [Act.put, List.setIfInBounds_toArray, List.set_cons_zero, List.set_cons_succ]
            refine wpAnyH_done (by kernel_rfl) ?_ _
            have y0 := HBxbBc.out.c0
            have y1 := HBxbBc.out.c1
            have y2 := HBxbBc.out.c2
            have HB9 := HBv3
            clear HBxbBc HT1 HT2
            go_wp2_with fail
            go_at_call 75
            refine (HD.out _ HB9.out.1).mono ?_
            rintro e w9 ⟨rfl, hb9⟩
            have HB10 : Hid (Below w.heap.size w w9 ∧ w.heap.size + 2 ≤ w9.heap.size) := ⟨HB9.out.1.trans (hb9.mono HB9.out.1.size), Nat.le_trans HB9.out.2 hb9.size⟩
            have HO9 := Lib.hid (own_later HOwvc.out hb9)
            have hz9 := HB10.out.2
            have p0 := bkeep hb9 p0
            have p1 := bkeep hb9 p1
            have p2 := bkeep hb9 p2
            have q0 := bkeep hb9 q0
            have q1 := bkeep hb9 q1
            clear hb9 x0 x1 x2 y0 y1 y2 zP zK HOwvc
            go_wp2_with (at_builtin; refine wpList_append_own _ rfl _ _ 63 rfl (w.heap.size + 2) 104 i0 (.agg #[.int .i64 0, .int .i64 0]) 2 16 Try.underlying63 hi0 iz0 iz1 iz2 rfl (by decide) _ _ _ rfl (HO9.out.alloc _) ⟨w9.heap.size, 0, none⟩ 1 1 (spanC [(xs, A)]) rfl rfl ?c1 ?c2 ?c3 ?c4 ?c5 ?_)
            case c1 => exact spanC_one _ _ _
            case c2 => exact spanC_cells _
            case c3 => unfold maxLen; omega
            case c4 => omega
            case c5 => simp; omega
            intro v' w5 hown' hgrow _
            have hown0 := HO9.out
            have HB5 : Hid (Below w.heap.size w w5 ∧ w.heap.size + 2 ≤ w5.heap.size) := ⟨(HB10.out.1.alloc (by omega) _).grown hgrow (by simp; omega) (fun g hg => by have := (hown0.lt g hg).1; omega), by have := hgrow.size; simp at this; omega⟩
            have hb6 : Below (w.heap.size + 2) (w9.alloc (.cells #[.int .i64 xs, .int .i64 A] 104)) w5 := (Below.refl _ _).grown hgrow (by simp; omega) (fun g hg => (hown0.lt g hg).1)
            have p0 : w5.cell? ⟨w.heap.size, 0, none⟩ = some (.slice c0 t.net.stops.length d0) := by rw [hb6.cell (p := ⟨w.heap.size, 0, none⟩) (by dsimp only; omega)]; exact acell p0 _
            have p1 : w5.cell? ⟨w.heap.size, 1, none⟩ = some (.slice c1 t.net.lines.length d1) := by rw [hb6.cell (p := ⟨w.heap.size, 1, none⟩) (by dsimp only; omega)]; exact acell p1 _
            have p2 : w5.cell? ⟨w.heap.size, 2, none⟩ = some (.slice c2 t.trips.length d2) := by rw [hb6.cell (p := ⟨w.heap.size, 2, none⟩) (by dsimp only; omega)]; exact acell p2 _
            have q0 : w5.cell? ⟨w.heap.size + 1, 0, none⟩ = some (.slice fa f.dead.length fc) := by rw [hb6.cell (p := ⟨w.heap.size + 1, 0, none⟩) (by dsimp only; omega)]; exact acell q0 _
            have q1 : w5.cell? ⟨w.heap.size + 1, 1, none⟩ = some (.int .i64 f.turn) := by rw [hb6.cell (p := ⟨w.heap.size + 1, 1, none⟩) (by dsimp only; omega)]; exact acell q1 _
            rw [← spanC_append, ← HTk.out] at hown'
            obtain ⟨a6, c6, rfl⟩ := own_shape hown'
            have HR5 := Lib.hid hown'
            clear hown' hgrow hown0 hb6
            go_wp2_with fail
            go_roundw
            case rel => exact ⟨i + 1, c6, a6, by omega, by go_num, rfl, HR5, p0, p1, p2, q0, q1, HB5⟩
            case measure => simp [RowKit.intOf]; omega
      · obtain rfl : i = bs.length := by omega
        have ho := HOwr.out
        have hl := spansT_len t bs
        rw [List.take_of_length_le (by omega), ← hl] at ho
        rw [← hl]
        have HO := Lib.hid ho
        clear ho hl
        go_wp2_with fail
        go_ret2
        exact ⟨⟨_, _, rfl, SpansIn.mk (own_base HO.out (Nat.le_add_right _ 2))⟩, HB.out.1⟩

set_option maxRecDepth 100000 in
set_option maxHeartbeats 8000000 in
theorem specSpans_any (tv fv bv : Value) (t : TTD) (f : FleetD) (bs : List (List Int)) (w : World) (hr : TTAt w tv t) (hf : TTFits t) (hsm : TTSmall t) (hg : FleetAt w fv f) (hs : GrpsSmall f.dead) (hb : GrpsAt w bv bs) (hbs : GrpsSmall bs) :
    Calls Try.prog 33 #[tv, fv, bv] w fun e w' => SpAns w.heap.size (bsA t f bs) (dmOk t f bs) e w' ∧ Below w.heap.size w w' := by
  have HF := Lib.hid (fun W (h : Below w.heap.size w W) => l11Asked_any tv fv t f W (hr.below rfl h) hf (hg.below rfl h) hs)
  have HK := Lib.hid (fun W (h : Below w.heap.size w W) hA => l11Blocks_any tv fv bv t f bs W (hr.below rfl h) hsm (hg.below rfl h) hA (hb.below rfl h) hbs)
  have HFd := Lib.hid (fun W (h : Below w.heap.size w W) id => l5Find_any tv t id W (hr.below rfl h) hsm)
  have HEd := Lib.hid (fun (hA : TTGood t) (i : Nat) (hi : i < t.trips.length) => l5EndF_any tv t i w hr hA hi)
  have HAt := Lib.hid hr
  have HGr := Lib.hid hb
  have hsz := hbs.1
  have HSm : Hid (∀ i (h : i < bs.length), bs[i].length ≤ 1048576) := fun i h => by
    have e1 := preL_succ h
    have e2 := preL_le (xss := bs) (i := i + 1) (by omega)
    have := hbs.2
    omega
  obtain ⟨c0, d0, c1, d1, c2, d2, rfl, -, -⟩ := tt_open hr
  obtain ⟨fa, fc, rfl, -⟩ := fleet_open hg
  obtain ⟨ba, bc, rfl⟩ := IntSS_open hb
  obtain ⟨i0, hi0, iz0, iz1, iz2⟩ := info_parts infoSpan
  clear hr hg hf hs hsm hb hbs
  unfold bsA dmOk
  have HFn0 : Hid (blksB t f bs = true → AllFnd t bs) := fun h => (blksB_iff.1 h).fnd
  generalize hb1e : askedB t f = b1 at *
  have HAs2 : Hid (b1 = true → AskedGood t f) := fun h => askedB_iff.1 (hb1e.trans h)
  clear hb1e
  generalize blksB t f bs = b2 at *
  have HMk := Lib.hid (fun W1 : World => World.ownsRow_made (base := w.heap.size + 2) (size := 2) (e := 104) W1 #[] 0)
  have HM0 : Hid ((((w.alloc (.cells #[.slice c0 t.net.stops.length d0, .slice c1 t.net.lines.length d1, .slice c2 t.trips.length d2] 49)).alloc (.cells #[.slice fa f.dead.length fc, .int .i64 f.turn] 36)).alloc (.cells #[] 104)).ownsRow (w.heap.size + 2) 104 2 (.slice (some ⟨w.heap.size + 1 + 1, 0, none⟩) 0 0) 0 (spanC [])) := by
    have := HMk.out ((w.alloc (.cells #[.slice c0 t.net.stops.length d0, .slice c1 t.net.lines.length d1, .slice c2 t.trips.length d2] 49)).alloc (.cells #[.slice fa f.dead.length fc, .int .i64 f.turn] 36)) (by simp) (by decide) rfl
    show World.ownsRow _ _ _ _ _ _ _
    simpa [spanC] using this
  clear HMk
  have hways : b1 = false ∨ (b1 = true ∧ b2 = false) ∨ (b1 = true ∧ b2 = true) := by
    cases b1 <;> cases b2 <;> simp
  rcases hways with rfl | ⟨rfl, rfl⟩ | ⟨rfl, rfl⟩
  all_goals
    try have HG := Lib.hid (HAs2.out rfl)
    try have HFn := Lib.hid (HFn0.out rfl)
    simp only [Bool.false_and, Bool.true_and, Bool.false_eq_true, if_false, if_true]
    go_enter Try.func33, Try.ntmps33
    go_wp2_with fail
    go_at_call 58
    refine (HF.out _ ((((Below.refl _ _).alloc (Nat.le_refl _) _).alloc (by simp) _).alloc (by simp; omega) _)).mono ?_
    rintro e w1 ⟨rfl, hb1⟩
    have HB1 : Hid (Below w.heap.size w w1 ∧ w.heap.size + 2 ≤ w1.heap.size) := ⟨((((Below.refl _ _).alloc (Nat.le_refl _) _).alloc (by simp) _).alloc (by simp; omega) _).trans (hb1.mono (by simp; omega)), by have := hb1.size; simp at this; omega⟩
    have HO1 := Lib.hid (own_later HM0.out hb1)
    have p0 : w1.cell? ⟨w.heap.size, 0, none⟩ = some (.slice c0 t.net.stops.length d0) := bkeep hb1 (by go_simp)
    have p1 : w1.cell? ⟨w.heap.size, 1, none⟩ = some (.slice c1 t.net.lines.length d1) := bkeep hb1 (by go_simp)
    have p2 : w1.cell? ⟨w.heap.size, 2, none⟩ = some (.slice c2 t.trips.length d2) := bkeep hb1 (by go_simp)
    have q0 : w1.cell? ⟨w.heap.size + 1, 0, none⟩ = some (.slice fa f.dead.length fc) := bkeep hb1 (by go_simp)
    have q1 : w1.cell? ⟨w.heap.size + 1, 1, none⟩ = some (.int .i64 f.turn) := bkeep hb1 (by go_simp)
    clear hb1 HM0
    go_wp2_with fail
  · go_ret2
    exact ⟨⟨_, _, rfl, SpansIn.mk (own_base HO1.out (Nat.le_add_right _ 2))⟩, HB1.out.1⟩
  all_goals
    go_at_call 66
    refine (HK.out _ HB1.out.1 HG.out).mono ?_
    rintro e w2 ⟨rfl, hb2⟩
    have HB2 : Hid (Below w.heap.size w w2 ∧ w.heap.size + 2 ≤ w2.heap.size) := ⟨HB1.out.1.trans (hb2.mono HB1.out.1.size), Nat.le_trans HB1.out.2 hb2.size⟩
    have HO2 := Lib.hid (own_later HO1.out hb2)
    have p0 := bkeep hb2 p0
    have p1 := bkeep hb2 p1
    have p2 := bkeep hb2 p2
    have q0 := bkeep hb2 q0
    have q1 := bkeep hb2 q1
    clear hb2 HB1 HO1
    go_wp2_with fail
  · go_ret2
    exact ⟨⟨_, _, rfl, SpansIn.mk (own_base HO2.out (Nat.le_add_right _ 2))⟩, HB2.out.1⟩
  · go_loopw [8, 9] (fun sv q wr => ∃ (i sc : Nat) (sa : Option Addr), i ≤ bs.length ∧ q = .int .i64 i ∧ sv = .slice sa i sc ∧ Hid (wr.ownsRow (w.heap.size + 2) 104 2 (.slice sa i sc) i (spanC ((spansT t bs).take i))) ∧ wr.cell? ⟨w.heap.size, 0, none⟩ = some (.slice c0 t.net.stops.length d0) ∧ wr.cell? ⟨w.heap.size, 1, none⟩ = some (.slice c1 t.net.lines.length d1) ∧ wr.cell? ⟨w.heap.size, 2, none⟩ = some (.slice c2 t.trips.length d2) ∧ wr.cell? ⟨w.heap.size + 1, 0, none⟩ = some (.slice fa f.dead.length fc) ∧ wr.cell? ⟨w.heap.size + 1, 1, none⟩ = some (.int .i64 f.turn) ∧ Hid (Below w.heap.size w wr ∧ w.heap.size + 2 ≤ wr.heap.size))
      (fun _ q _ => bs.length - (RowKit.intOf q).toNat)
    case atStart => exact ⟨0, 0, _, Nat.zero_le _, rfl, rfl, HO2, p0, p1, p2, q0, q1, HB2⟩
    case round =>
      clear p0 p1 p2 q0 q1 HB2 HO2
      obtain ⟨i, sc, sa, hi, rfl, rfl, HOwr, p0, p1, p2, q0, q1, HB⟩ := hrel
      by_cases hlt : i < bs.length
      · obtain ⟨vb, vo, rfl, hC⟩ := grp_cells HGr.out (by omega)
        have hpos := (HFn.out i hlt).1
        obtain ⟨pb, po, pc, hy⟩ := (hC i hlt).2 hpos
        obtain ⟨m, hm⟩ : ∃ m, bs[i].length = m + 1 := ⟨bs[i].length - 1, by omega⟩
        have hml : m < bs[i].length := by omega
        obtain ⟨yI, hz⟩ := hy _ HB.out.1
        have zP := hz 0 hpos
        have zK := hz m hml
        simp only [Nat.add_zero] at zP
        rw [hm] at yI
        have hi1 : (i : Int) < (bs.length : Int) := by omega
        have hrs := HSm.out i hlt
        rw [hm] at hrs
        have hwm : IntKind.i64.wrap (m : Int) = (m : Int) := IntWalk.i64_in _ (by omega)
        have hkm : ((m + 1 : Nat) : Int) - 1 = (m : Int) := by omega
        have hm1 : (m : Int) < ((m + 1 : Nat) : Int) := by omega
        have hm0 : (0 : Int) < ((m + 1 : Nat) : Int) := by omega
        have hm5 : (m : Int) < (m : Int) + 1 := by omega
        have hm6 : (0 : Int) < (m : Int) + 1 := by omega
        have hf1 := (HFn.out i hlt).2 0 hpos
        have hf2 := (HFn.out i hlt).2 m hml
        have hTk : (spansT t bs).take (i + 1) = (spansT t bs).take i ++ [((tripOf t bs[i][0]).start, arrF t.net (tripOf t (bs[i][m]'hml)))] := by
          rw [spansT_take hlt]
          have e : spanB1 t bs[i] = ((tripOf t bs[i][0]).start, arrF t.net (tripOf t (bs[i][m]'hml))) := by
            unfold spanB1
            rw [hd_at hpos, show bs[i].length - 1 = m by omega]
            simp [hml]
          rw [e]
        obtain ⟨g1, g2⟩ := findI_yes HG.out.1 hf1
        obtain ⟨g3, g4⟩ := findI_yes HG.out.1 hf2
        have HF1 := Lib.hid (fun W (h : Below w.heap.size w W) => HFd.out W h bs[i][0])
        have HF2 := Lib.hid (fun W (h : Below w.heap.size w W) => HFd.out W h (bs[i][m]'hml))
        rw [g1] at HF1
        rw [g3] at HF2
        have HEn := Lib.hid (HEd.out HG.out.1 _ g4)
        rw [← tripOf_at hf2] at HEn
        have HStE : Hid ((t.trips[pl t bs[i][0]]'g2).start = (tripOf t bs[i][0]).start) := by show _ = _; rw [tripOf_at hf1]
        have HTk := Lib.hid hTk
        clear hf1 hf2 hy hz hC hTk hm g1 g3
        generalize bs[i][0] = idp at *
        generalize (bs[i][m]'hml) = id at *
        generalize pl t idp = pp at *
        generalize pl t id = pq at *
        generalize (tripOf t idp).start = xs at *
        generalize arrF t.net (tripOf t id) = A at *
        have hpl := g2
        go_upto_region 7 with fail
        refine wp_region_held_drew (S := (fun w' => w'.cell? ⟨w.heap.size, 0, none⟩ = some (.slice c0 t.net.stops.length d0) ∧ w'.cell? ⟨w.heap.size, 1, none⟩ = some (.slice c1 t.net.lines.length d1) ∧ w'.cell? ⟨w.heap.size, 2, none⟩ = some (.slice c2 t.trips.length d2) ∧ w'.cell? ⟨w.heap.size + 1, 0, none⟩ = some (.slice fa f.dead.length fc) ∧ w'.cell? ⟨w.heap.size + 1, 1, none⟩ = some (.int .i64 f.turn) ∧ w'.cell? ⟨vb, vo + i, none⟩ = some (.slice (some ⟨pb, po, none⟩) (m + 1) pc) ∧ w'.cell? ⟨pb, po, none⟩ = some (.int .i64 idp) ∧ w'.cell? ⟨pb, po + m, none⟩ = some (.int .i64 id))) (by kernel_rfl) ?_ (fun hHeld => ?_)
        · exact ⟨p0, p1, p2, q0, q1, yI, zP, zK⟩
        refine wpAnyH_take (i := 0) (v := ?_) (by simp only [List.getElem?_toArray, List.getElem?_cons_zero]; rfl) (by kernel_rfl) (by kernel_rfl) (by kernel_rfl) (by exact fun _ _ _ h => h) (Or.inl ⟨by rfl, ?_⟩) (by assumption) ?_
        rotate_left
        · intro w' hSw; obtain ⟨e0, e1, e2, e3, e4, e5, e6, e7⟩ := hSw
          go_simp; try with_reducible rfl
        try simp only [Act.put, List.setIfInBounds_toArray, List.set_cons_zero, List.set_cons_succ]
        refine wpAnyH_take (i := 1) (v := ?_) (by simp only [List.getElem?_toArray, List.getElem?_cons_succ, List.getElem?_cons_zero]; rfl) (by kernel_rfl) (by kernel_rfl) (by kernel_rfl) (by exact fun _ _ _ h => h) (Or.inl ⟨by rfl, ?_⟩) (by assumption) ?_
        rotate_left
        · intro w' hSw; obtain ⟨e0, e1, e2, e3, e4, e5, e6, e7⟩ := hSw
          go_simp; try with_reducible rfl
        try simp only [Act.put, List.setIfInBounds_toArray, List.set_cons_zero, List.set_cons_succ]
        refine wpAnyH_take (i := 2) (v := ?_) (by simp only [List.getElem?_toArray, List.getElem?_cons_succ, List.getElem?_cons_zero]; rfl) (by kernel_rfl) (by kernel_rfl) (by kernel_rfl) (by exact fun _ _ _ h => h) (Or.inl ⟨by rfl, ?_⟩) (by assumption) ?_
        rotate_left
        · intro w' hSw; obtain ⟨e0, e1, e2, e3, e4, e5, e6, e7⟩ := hSw
          go_simp; try with_reducible rfl
        try simp only [Act.put, List.setIfInBounds_toArray, List.set_cons_zero, List.set_cons_succ]
        refine wpAnyH_take (i := 3) (v := ?_) (by simp only [List.getElem?_toArray, List.getElem?_cons_succ, List.getElem?_cons_zero]; rfl) (by kernel_rfl) (by kernel_rfl) (by kernel_rfl) (by exact fun _ _ _ h => h) (Or.inl ⟨by rfl, ?_⟩) (by assumption) ?_
        rotate_left
        · intro w' hSw; obtain ⟨e0, e1, e2, e3, e4, e5, e6, e7⟩ := hSw
          go_simp; try with_reducible rfl
        try simp only [Act.put, List.setIfInBounds_toArray, List.set_cons_zero, List.set_cons_succ]
        refine wpAnyH_take (i := 4) (v := ?_) (by simp only [List.getElem?_toArray, List.getElem?_cons_succ, List.getElem?_cons_zero]; rfl) (by kernel_rfl) (by kernel_rfl) (by kernel_rfl) (by exact fun _ _ _ h => h) (Or.inl ⟨by rfl, ?_⟩) (by assumption) ?_
        rotate_left
        · intro w' hSw; obtain ⟨e0, e1, e2, e3, e4, e5, e6, e7⟩ := hSw
          go_simp; try with_reducible rfl
        try simp only [Act.put, List.setIfInBounds_toArray, List.set_cons_zero, List.set_cons_succ]
        refine wpAnyH_take (i := 5) (v := ?_) (by simp only [List.getElem?_toArray, List.getElem?_cons_succ, List.getElem?_cons_zero]; rfl) (by kernel_rfl) (by kernel_rfl) (by kernel_rfl) (by exact fun _ _ _ h => h) (Or.inl ⟨by rfl, ?_⟩) (by assumption) ?_
        rotate_left
        · intro w' hSw; obtain ⟨e0, e1, e2, e3, e4, e5, e6, e7⟩ := hSw
          go_simp; try with_reducible rfl
        try simp only [Act.put, List.setIfInBounds_toArray, List.set_cons_zero, List.set_cons_succ]
        refine wpAnyH_take (i := 6) (v := ?_) (by simp only [List.getElem?_toArray, List.getElem?_cons_succ, List.getElem?_cons_zero]; rfl) (by kernel_rfl) (by kernel_rfl) (by kernel_rfl) (by exact fun _ _ _ h => h) (Or.inl ⟨by rfl, ?_⟩) (by assumption) ?_
        rotate_left
        · intro w' hSw; obtain ⟨e0, e1, e2, e3, e4, e5, e6, e7⟩ := hSw
          go_simp; try with_reducible rfl
        try simp only [Act.put, List.setIfInBounds_toArray, List.set_cons_zero, List.set_cons_succ]
        refine wpAnyH_take (i := 8) (v := ?_) (by simp only [List.getElem?_toArray, List.getElem?_cons_succ, List.getElem?_cons_zero]; rfl) (by kernel_rfl) (by kernel_rfl) (by kernel_rfl) (by exact fun _ _ _ h => h) (Or.inl ⟨by rfl, ?_⟩) (by assumption) ?_
        rotate_left
        · intro w' hSw; obtain ⟨e0, e1, e2, e3, e4, e5, e6, e7⟩ := hSw
          go_simp; try with_reducible rfl
        try simp only [Act.put, List.setIfInBounds_toArray, List.set_cons_zero, List.set_cons_succ]
        refine wpAnyH_take (i := 9) (v := ?_) (by simp only [List.getElem?_toArray, List.getElem?_cons_succ, List.getElem?_cons_zero]; rfl) (by kernel_rfl) (by kernel_rfl) (by kernel_rfl) (by exact fun _ _ _ h => h) (Or.inl ⟨by rfl, ?_⟩) (by assumption) ?_
        rotate_left
        · intro w' hSw; obtain ⟨e0, e1, e2, e3, e4, e5, e6, e7⟩ := hSw
          go_simp; try with_reducible rfl
        try simp only [Act.put, List.setIfInBounds_toArray, List.set_cons_zero, List.set_cons_succ]
        refine wpAnyH_take (i := 10) (v := ?_) (by simp only [List.getElem?_toArray, List.getElem?_cons_succ, List.getElem?_cons_zero]; rfl) (by kernel_rfl) (by kernel_rfl) (by kernel_rfl) (by exact fun _ _ _ h => h) (Or.inl ⟨by rfl, ?_⟩) (by assumption) ?_
        rotate_left
        · intro w' hSw; obtain ⟨e0, e1, e2, e3, e4, e5, e6, e7⟩ := hSw
          go_simp; try with_reducible rfl
        try simp only [Act.put, List.setIfInBounds_toArray, List.set_cons_zero, List.set_cons_succ]
        refine wpAnyH_take (i := 11) (v := ?_) (by simp only [List.getElem?_toArray, List.getElem?_cons_succ, List.getElem?_cons_zero]; rfl) (by kernel_rfl) (by kernel_rfl) (by kernel_rfl) (by exact fun _ _ _ h => h) (Or.inl ⟨by rfl, ?_⟩) (by assumption) ?_
        rotate_left
        · intro w' hSw; obtain ⟨e0, e1, e2, e3, e4, e5, e6, e7⟩ := hSw
          go_simp; try with_reducible rfl
        try simp only [Act.put, List.setIfInBounds_toArray, List.set_cons_zero, List.set_cons_succ]
        refine wpAnyH_take (i := 12) (v := ?_) (by simp only [List.getElem?_toArray, List.getElem?_cons_succ, List.getElem?_cons_zero]; rfl) (by kernel_rfl) (by kernel_rfl) (by kernel_rfl) (by exact fun _ _ _ h => h) (Or.inl ⟨by rfl, ?_⟩) (by assumption) ?_
        rotate_left
        · intro w' hSw; obtain ⟨e0, e1, e2, e3, e4, e5, e6, e7⟩ := hSw
          go_simp; try with_reducible rfl
        try simp only [Act.put, List.setIfInBounds_toArray, List.set_cons_zero, List.set_cons_succ]
        refine wpAnyH_take (i := 13) (v := ?_) (by simp only [List.getElem?_toArray, List.getElem?_cons_succ, List.getElem?_cons_zero]; rfl) (by kernel_rfl) (by kernel_rfl) (by kernel_rfl) (by exact fun _ _ _ h => h) (Or.inl ⟨by rfl, ?_⟩) (by assumption) ?_
        rotate_left
        · intro w' hSw; obtain ⟨e0, e1, e2, e3, e4, e5, e6, e7⟩ := hSw
          go_simp; try with_reducible rfl
        try simp only [Act.put, List.setIfInBounds_toArray, List.set_cons_zero, List.set_cons_succ]
        refine wpAnyH_take (i := 14) (v := ?_) (by simp only [List.getElem?_toArray, List.getElem?_cons_succ, List.getElem?_cons_zero]; rfl) (by kernel_rfl) (by kernel_rfl) (by kernel_rfl) (by exact fun _ _ _ h => h) (Or.inl ⟨by rfl, ?_⟩) (by assumption) ?_
        rotate_left
        · intro w' hSw; obtain ⟨e0, e1, e2, e3, e4, e5, e6, e7⟩ := hSw
          go_simp; try with_reducible rfl
        try simp only [Act.put, List.setIfInBounds_toArray, List.set_cons_zero, List.set_cons_succ]
        refine wpAnyH_take (i := 15) (v := ?_) (by simp only [List.getElem?_toArray, List.getElem?_cons_succ, List.getElem?_cons_zero]; rfl) (by kernel_rfl) (by kernel_rfl) (by kernel_rfl) (by exact fun _ _ _ h => h) (Or.inl ⟨by rfl, ?_⟩) (by assumption) ?_
        rotate_left
        · intro w' hSw; obtain ⟨e0, e1, e2, e3, e4, e5, e6, e7⟩ := hSw
          go_simp; try with_reducible rfl
        try simp only [Act.put, List.setIfInBounds_toArray, List.set_cons_zero, List.set_cons_succ]
        refine wpAnyH_take (i := 16) (v := ?_) (by simp only [List.getElem?_toArray, List.getElem?_cons_succ, List.getElem?_cons_zero]; rfl) (by kernel_rfl) (by kernel_rfl) (by kernel_rfl) (by exact fun _ _ _ h => h) (Or.inl ⟨by rfl, ?_⟩) (by assumption) ?_
        rotate_left
        · intro w' hSw; obtain ⟨e0, e1, e2, e3, e4, e5, e6, e7⟩ := hSw
          go_simp; try with_reducible rfl
        try simp only [Act.put, List.setIfInBounds_toArray, List.set_cons_zero, List.set_cons_succ]
        refine wpAnyH_take (i := 17) (v := ?_) (by simp only [List.getElem?_toArray, List.getElem?_cons_succ, List.getElem?_cons_zero]; rfl) (by kernel_rfl) (by kernel_rfl) (by kernel_rfl) (by exact fun _ _ _ h => h) (Or.inl ⟨by rfl, ?_⟩) (by assumption) ?_
        rotate_left
        · intro w' hSw; obtain ⟨e0, e1, e2, e3, e4, e5, e6, e7⟩ := hSw
          go_simp; try with_reducible rfl
        try simp only [Act.put, List.setIfInBounds_toArray, List.set_cons_zero, List.set_cons_succ]
        refine wpAnyH_take (i := 18) (v := ?_) (by simp only [List.getElem?_toArray, List.getElem?_cons_succ, List.getElem?_cons_zero]; rfl) (by kernel_rfl) (by kernel_rfl) (by kernel_rfl) (by exact fun _ _ _ h => h) (Or.inl ⟨by rfl, ?_⟩) (by assumption) ?_
        rotate_left
        · intro w' hSw; obtain ⟨e0, e1, e2, e3, e4, e5, e6, e7⟩ := hSw
          go_simp; try with_reducible rfl
        try simp only [Act.put, List.setIfInBounds_toArray, List.set_cons_zero, List.set_cons_succ]
        refine wpAnyH_take (i := 19) (v := ?_) (by simp only [List.getElem?_toArray, List.getElem?_cons_succ, List.getElem?_cons_zero]; rfl) (by kernel_rfl) (by kernel_rfl) (by kernel_rfl) (by exact fun _ _ _ h => h) (Or.inl ⟨by rfl, ?_⟩) (by assumption) ?_
        rotate_left
        · intro w' hSw; obtain ⟨e0, e1, e2, e3, e4, e5, e6, e7⟩ := hSw
          go_simp; try with_reducible rfl
        try simp only [Act.put, List.setIfInBounds_toArray, List.set_cons_zero, List.set_cons_succ]
        refine wpAnyH_take (i := 20) (v := ?_) (by simp only [List.getElem?_toArray, List.getElem?_cons_succ, List.getElem?_cons_zero]; rfl) (by kernel_rfl) (by kernel_rfl) (by kernel_rfl) (by exact fun _ _ _ h => h) (Or.inl ⟨by rfl, ?_⟩) (by assumption) ?_
        rotate_left
        · intro w' hSw; obtain ⟨e0, e1, e2, e3, e4, e5, e6, e7⟩ := hSw
          go_simp; try with_reducible rfl
        try simp only [Act.put, List.setIfInBounds_toArray, List.set_cons_zero, List.set_cons_succ]
        refine wpAnyH_ready (rs := [7]) (by kernel_rfl) (by simp) ?_
        refine AllReadyH.cons (by simp only [List.getElem?_toArray, List.getElem?_cons_succ, List.getElem?_cons_zero]; rfl) (fun K hK => ?_) AllReadyH.nil
        go_simp
        go_at_call 57
        refine (HF1.out _ HB.out.1.drew).mono ?_
        rintro e wa ⟨rfl, hb⟩
        have rbw : Below wr.heap.size wr wa := (Below.refl _ _).drew.trans hb
        have hS2 : wa.cell? ⟨w.heap.size, 0, none⟩ = some (.slice c0 t.net.stops.length d0) ∧ wa.cell? ⟨w.heap.size, 1, none⟩ = some (.slice c1 t.net.lines.length d1) ∧ wa.cell? ⟨w.heap.size, 2, none⟩ = some (.slice c2 t.trips.length d2) ∧ wa.cell? ⟨w.heap.size + 1, 0, none⟩ = some (.slice fa f.dead.length fc) ∧ wa.cell? ⟨w.heap.size + 1, 1, none⟩ = some (.int .i64 f.turn) ∧ wa.cell? ⟨vb, vo + i, none⟩ = some (.slice (some ⟨pb, po, none⟩) (m + 1) pc) ∧ wa.cell? ⟨pb, po, none⟩ = some (.int .i64 idp) ∧ wa.cell? ⟨pb, po + m, none⟩ = some (.int .i64 id) := ⟨bkeep rbw p0, bkeep rbw p1, bkeep rbw p2, bkeep rbw q0, bkeep rbw q1, bkeep rbw yI, bkeep rbw zP, bkeep rbw zK⟩
        have HBa : Hid (Below w.heap.size w wa ∧ w.heap.size + 2 ≤ wa.heap.size) := ⟨HB.out.1.trans (rbw.mono HB.out.1.size), Nat.le_trans HB.out.2 rbw.size⟩
        have HOwa := Lib.hid (own_later HOwr.out rbw)
        clear hb rbw
        go_wp2_with fail
        refine hK.out _ _ hS2 (fun hH7 => ?_)
        obtain ⟨p0, p1, p2, q0, q1, yI, zP, zK⟩ := hS2
        clear hK K
        try simp only [Act.put, List.setIfInBounds_toArray, List.set_cons_zero, List.set_cons_succ]
        refine wpAnyH_ready (rs := [21]) (by kernel_rfl) (by simp) ?_
        refine AllReadyH.cons (by simp only [List.getElem?_toArray, List.getElem?_cons_succ, List.getElem?_cons_zero]; rfl) (fun K hK => ?_) AllReadyH.nil
        go_simp
        go_at_call 57
        refine (HF2.out _ HBa.out.1).mono ?_
        rintro e wb ⟨rfl, hb⟩
        have rbw : Below wa.heap.size wa wb := hb
        have hS2 : wb.cell? ⟨w.heap.size, 0, none⟩ = some (.slice c0 t.net.stops.length d0) ∧ wb.cell? ⟨w.heap.size, 1, none⟩ = some (.slice c1 t.net.lines.length d1) ∧ wb.cell? ⟨w.heap.size, 2, none⟩ = some (.slice c2 t.trips.length d2) ∧ wb.cell? ⟨w.heap.size + 1, 0, none⟩ = some (.slice fa f.dead.length fc) ∧ wb.cell? ⟨w.heap.size + 1, 1, none⟩ = some (.int .i64 f.turn) ∧ wb.cell? ⟨vb, vo + i, none⟩ = some (.slice (some ⟨pb, po, none⟩) (m + 1) pc) ∧ wb.cell? ⟨pb, po, none⟩ = some (.int .i64 idp) ∧ wb.cell? ⟨pb, po + m, none⟩ = some (.int .i64 id) := ⟨bkeep rbw p0, bkeep rbw p1, bkeep rbw p2, bkeep rbw q0, bkeep rbw q1, bkeep rbw yI, bkeep rbw zP, bkeep rbw zK⟩
        have HBb : Hid (Below w.heap.size w wb ∧ w.heap.size + 2 ≤ wb.heap.size) := ⟨HBa.out.1.trans (rbw.mono HBa.out.1.size), Nat.le_trans HBa.out.2 rbw.size⟩
        have HOwb := Lib.hid (own_later HOwa.out rbw)
        clear hb rbw
        go_wp2_with fail
        refine hK.out _ _ hS2 (fun hH21 => ?_)
        obtain ⟨p0, p1, p2, q0, q1, yI, zP, zK⟩ := hS2
        clear hK K
        try simp only [Act.put, List.setIfInBounds_toArray, List.set_cons_zero, List.set_cons_succ]
        refine wpAnyH_take (i := 22) (v := ?_) (by simp only [List.getElem?_toArray, List.getElem?_cons_succ, List.getElem?_cons_zero]; rfl) (by kernel_rfl) (by kernel_rfl) (by kernel_rfl) (by exact fun _ _ _ h => h) (Or.inl ⟨by rfl, ?_⟩) (by assumption) ?_
        rotate_left
        · intro w' hSw; obtain ⟨e0, e1, e2, e3, e4, e5, e6, e7⟩ := hSw
          go_simp; try with_reducible rfl
        try simp only [Act.put, List.setIfInBounds_toArray, List.set_cons_zero, List.set_cons_succ]
        refine wpAnyH_take (i := 23) (v := ?_) (by simp only [List.getElem?_toArray, List.getElem?_cons_succ, List.getElem?_cons_zero]; rfl) (by kernel_rfl) (by kernel_rfl) (by kernel_rfl) (by exact fun _ _ _ h => h) (Or.inl ⟨by rfl, ?_⟩) (by assumption) ?_
        rotate_left
        · intro w' hSw; obtain ⟨e0, e1, e2, e3, e4, e5, e6, e7⟩ := hSw
          go_simp; try with_reducible rfl
        try simp only [Act.put, List.setIfInBounds_toArray, List.set_cons_zero, List.set_cons_succ]
        refine wpAnyH_done (by kernel_rfl) ?_ _
        obtain ⟨g, go, rfl, hgb, -, -, yT⟩ := trip_at ((tt_net (HAt.out.below rfl HBb.out.1)).2) pp hpl
        rw [HStE.out] at yT
        have hpp1 : (pp : Int) < (t.trips.length : Int) := by omega
        have HFar : Hid (∀ q, (Value.slice sa i sc).ownBlock = some q → g ≠ q) := fun q hq e => by
          obtain ⟨g2, go2, e2, hgw, -⟩ := trip_at (tt_net HAt.out).2 pp hpl
          simp at e2
          have := (HOwb.out.lt q hq).1
          omega
        clear yI zP zK
        go_upto_region 8 with fail
        refine wp_region_held_drew (S := (fun w' => w'.cell? ⟨w.heap.size, 0, none⟩ = some (.slice c0 t.net.stops.length d0) ∧ w'.cell? ⟨w.heap.size, 1, none⟩ = some (.slice c1 t.net.lines.length d1) ∧ w'.cell? ⟨w.heap.size, 2, none⟩ = some (.slice (some ⟨g, go, none⟩) t.trips.length d2) ∧ w'.cell? ⟨w.heap.size + 1, 0, none⟩ = some (.slice fa f.dead.length fc) ∧ w'.cell? ⟨w.heap.size + 1, 1, none⟩ = some (.int .i64 f.turn) ∧ w'.cell? ⟨g, go + pp * 3 + 2, none⟩ = some (.int .i64 xs))) (by kernel_rfl) ?_ (fun hHeld => ?_)
        · exact ⟨p0, p1, p2, q0, q1, yT⟩
        refine wpAnyH_take (i := 0) (v := ?_) (by simp only [List.getElem?_toArray, List.getElem?_cons_zero]; rfl) (by kernel_rfl) (by kernel_rfl) (by kernel_rfl) (by exact fun _ _ _ h => h) (Or.inl ⟨by rfl, ?_⟩) (by assumption) ?_
        rotate_left
        · intro w' hSw; obtain ⟨e0, e1, e2, e3, e4, e5⟩ := hSw
          go_simp; try with_reducible rfl
        try simp only [Act.put, List.setIfInBounds_toArray, List.set_cons_zero, List.set_cons_succ]
        refine wpAnyH_take (i := 1) (v := ?_) (by simp only [List.getElem?_toArray, List.getElem?_cons_succ, List.getElem?_cons_zero]; rfl) (by kernel_rfl) (by kernel_rfl) (by kernel_rfl) (by exact fun _ _ _ h => h) (Or.inl ⟨by rfl, ?_⟩) (by assumption) ?_
        rotate_left
        · intro w' hSw; obtain ⟨e0, e1, e2, e3, e4, e5⟩ := hSw
          go_simp; try with_reducible rfl
        try simp only [Act.put, List.setIfInBounds_toArray, List.set_cons_zero, List.set_cons_succ]
        refine wpAnyH_take (i := 2) (v := ?_) (by simp only [List.getElem?_toArray, List.getElem?_cons_succ, List.getElem?_cons_zero]; rfl) (by kernel_rfl) (by kernel_rfl) (by kernel_rfl) (by exact fun _ _ _ h => h) (Or.inl ⟨by rfl, ?_⟩) (by assumption) ?_
        rotate_left
        · intro w' hSw; obtain ⟨e0, e1, e2, e3, e4, e5⟩ := hSw
          go_simp; try with_reducible rfl
        try simp only [Act.put, List.setIfInBounds_toArray, List.set_cons_zero, List.set_cons_succ]
        refine wpAnyH_take (i := 3) (v := ?_) (by simp only [List.getElem?_toArray, List.getElem?_cons_succ, List.getElem?_cons_zero]; rfl) (by kernel_rfl) (by kernel_rfl) (by kernel_rfl) (by exact fun _ _ _ h => h) (Or.inl ⟨by rfl, ?_⟩) (by assumption) ?_
        rotate_left
        · intro w' hSw; obtain ⟨e0, e1, e2, e3, e4, e5⟩ := hSw
          go_simp; try with_reducible rfl
        try simp only [Act.put, List.setIfInBounds_toArray, List.set_cons_zero, List.set_cons_succ]
        refine wpAnyH_take (i := 4) (v := ?_) (by simp only [List.getElem?_toArray, List.getElem?_cons_succ, List.getElem?_cons_zero]; rfl) (by kernel_rfl) (by kernel_rfl) (by kernel_rfl) (by exact fun _ _ _ h => h) (Or.inl ⟨by rfl, ?_⟩) (by assumption) ?_
        rotate_left
        · intro w' hSw; obtain ⟨e0, e1, e2, e3, e4, e5⟩ := hSw
          go_simp; try with_reducible rfl
        try simp only [Act.put, List.setIfInBounds_toArray, List.set_cons_zero, List.set_cons_succ]
        refine wpAnyH_take (i := 5) (v := ?_) (by simp only [List.getElem?_toArray, List.getElem?_cons_succ, List.getElem?_cons_zero]; rfl) (by kernel_rfl) (by kernel_rfl) (by kernel_rfl) (by exact fun _ _ _ h => h) (Or.inl ⟨by rfl, ?_⟩) (by assumption) ?_
        rotate_left
        · intro w' hSw; obtain ⟨e0, e1, e2, e3, e4, e5⟩ := hSw
          go_simp; try with_reducible rfl
        try simp only [Act.put, List.setIfInBounds_toArray, List.set_cons_zero, List.set_cons_succ]
        refine wpAnyH_take (i := 6) (v := ?_) (by simp only [List.getElem?_toArray, List.getElem?_cons_succ, List.getElem?_cons_zero]; rfl) (by kernel_rfl) (by kernel_rfl) (by kernel_rfl) (by exact fun _ _ _ h => h) (Or.inl ⟨by rfl, ?_⟩) (by assumption) ?_
        rotate_left
        · intro w' hSw; obtain ⟨e0, e1, e2, e3, e4, e5⟩ := hSw
          go_simp; try with_reducible rfl
        try simp only [Act.put, List.setIfInBounds_toArray, List.set_cons_zero, List.set_cons_succ]
        refine wpAnyH_take (i := 7) (v := ?_) (by simp only [List.getElem?_toArray, List.getElem?_cons_succ, List.getElem?_cons_zero]; rfl) (by kernel_rfl) (by kernel_rfl) (by kernel_rfl) (by exact fun _ _ _ h => h) (Or.inl ⟨by rfl, ?_⟩) (by assumption) ?_
        rotate_left
        · intro w' hSw; obtain ⟨e0, e1, e2, e3, e4, e5⟩ := hSw
          go_simp; try with_reducible rfl
        try simp only [Act.put, List.setIfInBounds_toArray, List.set_cons_zero, List.set_cons_succ]
        refine wpAnyH_take (i := 8) (v := ?_) (by simp only [List.getElem?_toArray, List.getElem?_cons_succ, List.getElem?_cons_zero]; rfl) (by kernel_rfl) (by kernel_rfl) (by kernel_rfl) (by exact fun _ _ _ h => h) (Or.inl ⟨by rfl, ?_⟩) (by assumption) ?_
        rotate_left
        · intro w' hSw; obtain ⟨e0, e1, e2, e3, e4, e5⟩ := hSw
          go_simp; try with_reducible rfl
        try simp only [Act.put, List.setIfInBounds_toArray, List.set_cons_zero, List.set_cons_succ]
        refine wpAnyH_ready (rs := [9]) (by kernel_rfl) (by simp) ?_
        refine AllReadyH.cons (by simp only [List.getElem?_toArray, List.getElem?_cons_succ, List.getElem?_cons_zero]; rfl) (fun K hK => ?_) AllReadyH.nil
        go_simp
        go_at_call 73
        refine (HEn.out _ HBb.out.1.drew).mono ?_
        rintro e wc ⟨rfl, hb⟩
        have rbw : Below wb.heap.size wb wc := (Below.refl _ _).drew.trans hb
        have hS2 : wc.cell? ⟨w.heap.size, 0, none⟩ = some (.slice c0 t.net.stops.length d0) ∧ wc.cell? ⟨w.heap.size, 1, none⟩ = some (.slice c1 t.net.lines.length d1) ∧ wc.cell? ⟨w.heap.size, 2, none⟩ = some (.slice (some ⟨g, go, none⟩) t.trips.length d2) ∧ wc.cell? ⟨w.heap.size + 1, 0, none⟩ = some (.slice fa f.dead.length fc) ∧ wc.cell? ⟨w.heap.size + 1, 1, none⟩ = some (.int .i64 f.turn) ∧ wc.cell? ⟨g, go + pp * 3 + 2, none⟩ = some (.int .i64 xs) := ⟨bkeep rbw p0, bkeep rbw p1, bkeep rbw p2, bkeep rbw q0, bkeep rbw q1, bkeep rbw yT⟩
        have HBc : Hid (Below w.heap.size w wc ∧ w.heap.size + 2 ≤ wc.heap.size) := ⟨HBb.out.1.trans (rbw.mono HBb.out.1.size), Nat.le_trans HBb.out.2 rbw.size⟩
        have HOwc := Lib.hid (own_later HOwb.out rbw)
        clear hb rbw
        go_wp2_with fail
        refine hK.out _ _ hS2 (fun hH9 => ?_)
        obtain ⟨p0, p1, p2, q0, q1, yT⟩ := hS2
        clear hK K
        try simp only [Act.put, List.setIfInBounds_toArray, List.set_cons_zero, List.set_cons_succ]
        refine wpAnyH_take (i := 10) (v := ?_) (by simp only [List.getElem?_toArray, List.getElem?_cons_succ, List.getElem?_cons_zero]; rfl) (by kernel_rfl) (by kernel_rfl) (by kernel_rfl) (by exact fun _ _ _ h => h) (Or.inl ⟨by rfl, ?_⟩) (by assumption) ?_
        rotate_left
        · intro w' hSw; obtain ⟨e0, e1, e2, e3, e4, e5⟩ := hSw
          go_simp; try with_reducible rfl
        try simp only [Act.put, List.setIfInBounds_toArray, List.set_cons_zero, List.set_cons_succ]
        refine wpAnyH_ready (rs := [11]) (by kernel_rfl) (by simp) ?_
        refine AllReadyH.cons (by simp only [List.getElem?_toArray, List.getElem?_cons_succ, List.getElem?_cons_zero]; rfl) (fun K hK => ?_) AllReadyH.nil
        go_simp
        obtain ⟨wA, hwA⟩ : ∃ wA : World, wA = World.alloc wc (.cells #[.int .i64 xs, .int .i64 A] 104) := ⟨_, rfl⟩
        have rbw : Below wc.heap.size wc wA := by rw [hwA]; exact (Below.refl _ _).alloc (Nat.le_refl _) _
        have hS2 : wA.cell? ⟨w.heap.size, 0, none⟩ = some (.slice c0 t.net.stops.length d0) ∧ wA.cell? ⟨w.heap.size, 1, none⟩ = some (.slice c1 t.net.lines.length d1) ∧ wA.cell? ⟨w.heap.size, 2, none⟩ = some (.slice (some ⟨g, go, none⟩) t.trips.length d2) ∧ wA.cell? ⟨w.heap.size + 1, 0, none⟩ = some (.slice fa f.dead.length fc) ∧ wA.cell? ⟨w.heap.size + 1, 1, none⟩ = some (.int .i64 f.turn) ∧ wA.cell? ⟨g, go + pp * 3 + 2, none⟩ = some (.int .i64 xs) := ⟨bkeep rbw p0, bkeep rbw p1, bkeep rbw p2, bkeep rbw q0, bkeep rbw q1, bkeep rbw yT⟩
        have HBA : Hid (Below w.heap.size w wA ∧ w.heap.size + 2 ≤ wA.heap.size) := ⟨HBc.out.1.trans (rbw.mono HBc.out.1.size), Nat.le_trans HBc.out.2 rbw.size⟩
        have HOA := Lib.hid (own_later HOwc.out rbw)
        have HC1 : Hid (∀ j u, (spanC [(xs, A)])[j]? = some u → wA.cell? ((⟨wc.heap.size, 0, none⟩ : Addr).add j) = some u) := by rw [hwA]; exact spanC_one _ _ _
        rw [← hwA]
        clear rbw hwA
        refine hK.out _ _ hS2 (fun hH11 => ?_)
        obtain ⟨p0, p1, p2, q0, q1, yT⟩ := hS2
        clear hK K
        try simp only [Act.put, List.setIfInBounds_toArray, List.set_cons_zero, List.set_cons_succ]
        refine wpAnyH_ready (rs := [12]) (by kernel_rfl) (by simp) ?_
        refine AllReadyH.cons (by simp only [List.getElem?_toArray, List.getElem?_cons_succ, List.getElem?_cons_zero]; rfl) (fun K hK => ?_) AllReadyH.nil
        obtain ⟨vR, wR, hrun, hown, hgr⟩ := run_append_span1 wA (w.heap.size + 2) i (.slice sa i sc) ((spansT t bs).take i) HOA.out wc.heap.size (xs, A) HC1.out (by omega) HBA.out.2
        have hb6 : Below (w.heap.size + 2) wA wR := (Below.refl _ _).grown hgr HBA.out.2 (fun q hq => (HOA.out.lt q hq).1)
        have hzA := HBA.out.2
        have p0 : wR.cell? ⟨w.heap.size, 0, none⟩ = some (.slice c0 t.net.stops.length d0) := by rw [hb6.cell (p := ⟨w.heap.size, 0, none⟩) (by dsimp only; omega)]; exact p0
        have p1 : wR.cell? ⟨w.heap.size, 1, none⟩ = some (.slice c1 t.net.lines.length d1) := by rw [hb6.cell (p := ⟨w.heap.size, 1, none⟩) (by dsimp only; omega)]; exact p1
        have p2 : wR.cell? ⟨w.heap.size, 2, none⟩ = some (.slice (some ⟨g, go, none⟩) t.trips.length d2) := by rw [hb6.cell (p := ⟨w.heap.size, 2, none⟩) (by dsimp only; omega)]; exact p2
        have q0 : wR.cell? ⟨w.heap.size + 1, 0, none⟩ = some (.slice fa f.dead.length fc) := by rw [hb6.cell (p := ⟨w.heap.size + 1, 0, none⟩) (by dsimp only; omega)]; exact q0
        have q1 : wR.cell? ⟨w.heap.size + 1, 1, none⟩ = some (.int .i64 f.turn) := by rw [hb6.cell (p := ⟨w.heap.size + 1, 1, none⟩) (by dsimp only; omega)]; exact q1
        have yT : wR.cell? ⟨g, go + pp * 3 + 2, none⟩ = some (.int .i64 xs) := hgr.cell yT (fun e => HFar.out g e.symm rfl)
        have HBR : Hid (Below w.heap.size w wR ∧ w.heap.size + 2 ≤ wR.heap.size) := ⟨HBA.out.1.trans (hb6.mono (Nat.le_add_right _ 2)), Nat.le_trans HBA.out.2 hb6.size⟩
        rw [← HTk.out] at hown
        have HOR := Lib.hid hown
        refine step_append_run rfl (.tmp 53) (.tmp 64) 63 rfl rfl rfl hrun ?_
        clear hrun hown hgr hb6
        refine hK.out _ _ ⟨p0, p1, p2, q0, q1, yT⟩ (fun hH12 => ?_)
        clear hK K
        try simp only [Act.put, List.setIfInBounds_toArray, List.set_cons_zero, List.set_cons_succ]
        refine wpAnyH_take (i := 13) (v := ?_) (by simp only [List.getElem?_toArray, List.getElem?_cons_succ, List.getElem?_cons_zero]; rfl) (by kernel_rfl) (by kernel_rfl) (by kernel_rfl) (by exact fun _ _ _ h => h) (Or.inl ⟨by rfl, ?_⟩) (by assumption) ?_
        rotate_left
        · intro w' hSw; obtain ⟨e0, e1, e2, e3, e4, e5⟩ := hSw
          go_simp; try with_reducible rfl
        try simp only [Act.put, List.setIfInBounds_toArray, List.set_cons_zero, List.set_cons_succ]
        refine wpAnyH_done (by kernel_rfl) ?_ _
        obtain ⟨a6, c6, rfl⟩ := own_shape HOR.out
        go_wp2_with fail
        go_roundw
        case rel => exact ⟨i + 1, c6, a6, by omega, by go_num, rfl, HOR, p0, p1, p2, q0, q1, HBR⟩
        case measure => simp [RowKit.intOf]; omega
      · obtain rfl : i = bs.length := by omega
        have ho := HOwr.out
        have hl := spansT_len t bs
        rw [List.take_of_length_le (by omega), ← hl] at ho
        rw [← hl]
        have HO := Lib.hid ho
        clear ho hl
        go_wp2_with fail
        go_ret2
        exact ⟨⟨_, _, rfl, SpansIn.mk (own_base HO.out (Nat.le_add_right _ 2))⟩, HB.out.1⟩

theorem bothBlockSpans (t : TTD) (hf : TTFits t) (hs : TTSmall t) (f : FleetD) (_hf2 : FleetFits f) (hs2 : FleetSmall f) (bs : List (List Int)) (_hf3 : GrpsFit bs) (hs3 : GrpsSmall bs) : ∃ (r0 : List SpanD) (r1 : Bool), SpansSmall r0 ∧ ∀ v v' v'' w, TTAt w v t → FleetAt w v' f → GrpsAt w v'' bs →
    (Calls Try.prog 33 #[v, v', v''] w fun e w' => ∃ z, e = .returned (.tuple #[z, .bool r1]) ∧ SpansIn w.heap.size w'.heap.size w' z r0 ∧ Below w.heap.size w w') ∧ Calls Try.prog 34 #[v, v', v''] w fun e w' => ∃ z, e = .returned (.tuple #[z, .bool r1]) ∧ SpansIn w.heap.size w'.heap.size w' z r0 ∧ Below w.heap.size w w' := by
  refine ⟨bsA t f bs, dmOk t f bs, ?_, fun v v' v'' w h h' h'' => ⟨(specSpans_any v v' v'' t f bs w h hf hs h' hs2 h'' hs3).mono ?_, (implSpans_any v v' v'' t f bs w h hf h' hs2 h'' hs3).mono ?_⟩⟩
  · unfold bsA SpansSmall
    split
    · rw [spansT_len]; have := hs3.1; omega
    · simp
  all_goals
    rintro e w' ⟨⟨a, c, he, hi⟩, hb⟩
    exact ⟨_, he, hi, hb⟩
end Go.Proofs.Ytehpeifaknbcnaa

import Derived.Test.YtehpeifaknbcnaaIsBlock
import Derived.OrdersHeld
import Derived.Deep.RegionHeld
namespace Go.Proofs.Ytehpeifaknbcnaa
open Go.RowKit
set_option linter.unusedVariables false
set_option linter.unusedSimpArgs false

def Serv (w : World) (S : Nat) (L : List Nat) : Prop := (∀ p, p < 12 → w.cell? ⟨S, p, none⟩ = some (.bool (decide (p ∈ L)))) ∧ ∀ o, w.frozen? ⟨S, o, none⟩ = false
theorem Serv.keep {w w' : World} {S : Nat} {L : List Nat} (h : Serv w S L) (hb : Below w.heap.size w w') : Serv w' S L :=
  ⟨fun p hp => bkeep hb (h.1 p hp), fun o => fkeep hb (show S < _ from World.block_lt_of_cell? w _ (h.1 0 (by omega))) (h.2 o)⟩
theorem Serv.add {w : World} {S p : Nat} {L : List Nat} (h : Serv w S L) (hp : p < 12) : Serv (w.setCell ⟨S, p, none⟩ (.bool true)) S (L ++ [p]) := by
  refine ⟨fun q hq => ?_, fun o => by rw [World.frozen?_setCell]; exact h.2 o⟩
  by_cases e : p = q
  · subst e
    rw [set_same (h.1 p hp)]
    simp
  · rw [set_other e, h.1 q hq]
    have : (q ∈ L ++ [p]) ↔ q ∈ L := by simp; intro h; exact absurd h.symm e
    simp only [this]
theorem hd_at {b : List Int} (h : 0 < b.length) : hd b = b[0]'h := by
  cases b with
  | nil => simp at h
  | cons a l => rfl
theorem set1_cell {w : World} {p a : Addr} {u : Value} (h : p.block ≠ a.block) : (w.setCell p u).cell? a = w.cell? a := World.cell?_of_block (Below.heap_setCell _ _ _ _ (fun e => h (by rw [e])))

theorem indexFalse_any (S n c : Nat) (g : Nat → Bool) (w : World) (hn : n ≤ 12) (h : ∀ p, p < n → w.cell? ⟨S, p, none⟩ = some (.bool (g p))) :
    Calls Try.prog 106 #[.slice (some ⟨S, 0, none⟩) n c, .bool false] w fun e w' => (∃ r : Int, e = .returned (.int .i64 r) ∧ (0 ≤ r ↔ ∃ p, p < n ∧ g p = false)) ∧ w = w' := by
  have HC := Lib.hid h
  clear h
  go_enter Try.func106, Try.ntmps106
  go_wp2
  go_loop [8] (fun i => ∃ k : Nat, k ≤ n ∧ i = .int .i64 k ∧ Hid (∀ p, p < k → g p = true)) (fun i => n - (RowKit.intOf i).toNat)
  case atStart => exact ⟨0, Nat.zero_le _, rfl, fun p hp => by omega⟩
  case round =>
    obtain ⟨k, hk, rfl, HN⟩ := hrel
    by_cases hlt : k < n
    · have hcx := HC.out k hlt
      have e0 : (0 : Nat) + k = k := by omega
      cases hg : g k
      · rw [hg] at hcx
        have HF : Hid (0 ≤ (k : Int) ↔ ∃ p, p < n ∧ g p = false) := ⟨fun _ => ⟨k, hlt, hg⟩, fun _ => by omega⟩
        clear hg
        go_wp2
        go_ret
        exact ⟨⟨_, rfl, HF.out⟩, rfl⟩
      · rw [hg] at hcx
        have HN2 : Hid (∀ p, p < k + 1 → g p = true) := fun p hp => by
          by_cases e : p = k
          · subst e; exact hg
          · exact HN.out p (by omega)
        clear hg
        go_wp2
        go_round
        case rel => exact ⟨k + 1, by omega, by go_num, HN2⟩
        case measure => simp [RowKit.intOf]; omega
    · have HF : Hid (0 ≤ (-1 : Int) ↔ ∃ p, p < n ∧ g p = false) := ⟨fun h => by omega, fun ⟨p, hp, hf⟩ => by have := HN.out p (by omega); rw [hf] at this; cases this⟩
      go_wp2
      go_ret
      exact ⟨⟨_, rfl, HF.out⟩, rfl⟩
theorem containsFalse_any (S n c : Nat) (g : Nat → Bool) (b : Bool) (hb : b = true ↔ ∃ p, p < n ∧ g p = false) (w : World) (hn : n ≤ 12) (h : ∀ p, p < n → w.cell? ⟨S, p, none⟩ = some (.bool (g p))) :
    Calls Try.prog 70 #[.slice (some ⟨S, 0, none⟩) n c, .bool false] w fun e w' => e = .returned (.bool b) ∧ w = w' := by
  have HI := Lib.hid (indexFalse_any S n c g w hn h)
  have HB := Lib.hid hb
  clear h hb
  go_enter Try.func70, Try.ntmps70
  go_wp2_with (go_at_call 106; refine HI.out.mono ?_; rintro e w' ⟨⟨r, rfl, hr⟩, rfl⟩; have HR := Lib.hid hr; clear hr)
  go_ret
  exact ⟨ret_bool (by
    have h2 := HB.out
    have hr := HR.out
    cases b
    · have : ¬ 0 ≤ r := fun h => by have := h2.2 (hr.1 h); cases this
      simp [this]
    · simpa using hr.2 (h2.1 rfl)), rfl⟩

set_option maxRecDepth 100000 in
set_option maxHeartbeats 8000000 in
theorem implBlocks_any (tv fv bv : Value) (t : TTD) (f : FleetD) (bs : List (List Int)) (w : World) (hr : TTAt w tv t) (hf : TTFits t) (hg : FleetAt w fv f) (hs : GrpsSmall f.dead) (hb : GrpsAt w bv bs) (hbs : GrpsSmall bs) :
    Calls Try.prog 27 #[tv, fv, bv] w fun e w' => e = .returned (.bool (askedB t f && blksB t f bs)) ∧ Below w.heap.size w w' := by
  have HF := Lib.hid (fun W (h : Below w.heap.size w W) => hasFleet_any tv fv t f W (hr.below rfl h) hf (hg.below rfl h) hs)
  have HAt := Lib.hid hr
  have HGt := Lib.hid hg
  obtain ⟨vs, g1, g2, g3⟩ := hb
  obtain ⟨ba, bc, hv⟩ : ∃ a c, bv = .slice a bs.length c := by obtain ⟨a, c, hv, _⟩ := g1; exact ⟨a, c, by rw [hv, g2]⟩
  subst hv
  have HVs := Lib.hid g1
  have HEa := Lib.hid g3
  have hsz := hbs.1
  have HSm : Hid (∀ i (h : i < bs.length), bs[i].length ≤ 1048576) := fun i h => by
    have e1 := preL_succ h
    have e2 := preL_le (xss := bs) (i := i + 1) (by omega)
    have := hbs.2
    omega
  obtain ⟨c0, d0, c1, d1, c2, d2, rfl, -, -⟩ := tt_open hr
  obtain ⟨fa, fc, rfl, -⟩ := fleet_open hg
  clear hr hg hf hs g1 g3 hbs
  cases hA : askedB t f
  · rw [hA] at HF
    simp only [Bool.false_and]
    go_enter Try.func27, Try.ntmps27
    go_wp2_with fail
    go_at_call 61
    refine (HF.out _ (((Below.refl _ _).alloc (Nat.le_refl _) _).alloc (by simp) _)).mono ?_
    rintro e w1 ⟨rfl, hb1⟩
    have HB1 : Hid (Below w.heap.size w w1) := (((Below.refl _ _).alloc (Nat.le_refl _) _).alloc (by simp) _).trans (hb1.mono (by simp; omega))
    clear hb1
    go_wp2_with fail
    go_ret
    exact ⟨rfl, HB1.out⟩
  · rw [hA] at HF
    simp only [Bool.true_and]
    have HG := Lib.hid (askedB_iff.1 hA)
    clear hA
    have hlen : t.trips.length ≤ 12 := HG.out.1.2.1
    go_enter Try.func27, Try.ntmps27
    go_wp2_with fail
    go_at_call 61
    refine (HF.out _ (((Below.refl _ _).alloc (Nat.le_refl _) _).alloc (by simp) _)).mono ?_
    rintro e w1 ⟨rfl, hb1⟩
    have HB1 : Hid (Below w.heap.size w w1) := (((Below.refl _ _).alloc (Nat.le_refl _) _).alloc (by simp) _).trans (hb1.mono (by simp; omega))
    have hz1 : w.heap.size + 2 ≤ w1.heap.size := by have := hb1.size; simp at this; omega
    have p0 : w1.cell? ⟨w.heap.size, 0, none⟩ = some (.slice c0 t.net.stops.length d0) := bkeep hb1 (by go_simp)
    have p1 : w1.cell? ⟨w.heap.size, 1, none⟩ = some (.slice c1 t.net.lines.length d1) := bkeep hb1 (by go_simp)
    have p2 : w1.cell? ⟨w.heap.size, 2, none⟩ = some (.slice c2 t.trips.length d2) := bkeep hb1 (by go_simp)
    have q0 : w1.cell? ⟨w.heap.size + 1, 0, none⟩ = some (.slice fa f.dead.length fc) := bkeep hb1 (by go_simp)
    have q1 : w1.cell? ⟨w.heap.size + 1, 1, none⟩ = some (.int .i64 f.turn) := bkeep hb1 (by go_simp)
    clear hb1
    obtain ⟨S, hS⟩ : ∃ S, w1.heap.size = S := ⟨_, rfl⟩
    go_wp2_with fail
    go_loopw [20] (fun q wr => ∃ i : Nat, i ≤ bs.length ∧ q = .int .i64 i ∧ Hid (BlksTo t f bs i) ∧ Hid ((seenT t bs i 0).Nodup) ∧ Hid (Serv wr S (seenT t bs i 0)) ∧
        wr.cell? ⟨w.heap.size, 0, none⟩ = some (.slice c0 t.net.stops.length d0) ∧ wr.cell? ⟨w.heap.size, 1, none⟩ = some (.slice c1 t.net.lines.length d1) ∧ wr.cell? ⟨w.heap.size, 2, none⟩ = some (.slice c2 t.trips.length d2) ∧ wr.cell? ⟨w.heap.size + 1, 0, none⟩ = some (.slice fa f.dead.length fc) ∧ wr.cell? ⟨w.heap.size + 1, 1, none⟩ = some (.int .i64 f.turn) ∧ Hid (Below w.heap.size w wr ∧ S < wr.heap.size))
      (fun q _ => bs.length - (RowKit.intOf q).toNat)
    case atStart =>
      refine ⟨0, Nat.zero_le _, rfl, (fun j hj h => by omega), by show List.Nodup _; rw [seen_zero]; exact List.nodup_nil, ?_, acell p0 _, acell p1 _, acell p2 _, acell q0 _, acell q1 _, HB1.out.alloc (by omega) _, by simp; omega⟩
      show Serv _ _ _
      rw [seen_zero, ← hS]
      exact ⟨fun p hp => by
        have : p = 0 ∨ p = 1 ∨ p = 2 ∨ p = 3 ∨ p = 4 ∨ p = 5 ∨ p = 6 ∨ p = 7 ∨ p = 8 ∨ p = 9 ∨ p = 10 ∨ p = 11 := by omega
        rcases this with rfl | rfl | rfl | rfl | rfl | rfl | rfl | rfl | rfl | rfl | rfl | rfl <;> go_simp <;> rfl, fun o => by go_simp⟩
    case round =>
      clear p0 p1 p2 q0 q1 HB1
      obtain ⟨i, hi, rfl, HTo, HNd, HSv, p0, p1, p2, q0, q1, HB⟩ := hrel
      by_cases hlt : i < bs.length
      · obtain ⟨vb, vo, rfl, hvb, y⟩ := rowAt_cell (RowAt.below HVs.out rfl HB.out.1) i (by omega)
        have hi1 : (i : Int) < (bs.length : Int) := by omega
        have hrs := HSm.out i hlt
        obtain ⟨ra, rc, hvi⟩ := IntS_open (HEa.out i hlt (by omega))
        have HRow := Lib.hid (fun W (h : Below w.heap.size w W) => (HEa.out i hlt (by omega)).below rfl h)
        rw [hvi] at y HRow
        have HIB := Lib.hid (fun W (h : Below w.heap.size w W) => isBlock_any _ _ _ t f bs[i] W (HAt.out.below rfl h) (HGt.out.below rfl h) HG.out (HRow.out W h) hrs)
        have HNoB : Hid (¬ (BlkOk t f bs[i] ∧ ∀ j (hj : j + 1 = i), hd (bs[j]'(by omega)) < hd bs[i]) → blksB t f bs = false) := fun h => blksB_no (fun g => h (g.1 i hlt hlt))
        have hHd : ∀ (W : World) (j : Nat) (hj : j < bs.length), Below w.heap.size w W → bs[j] ≠ [] → ∃ pb po pn pc, W.cell? ⟨vb, vo + j, none⟩ = some (.slice (some ⟨pb, po, none⟩) pn pc) ∧ W.cell? ⟨pb, po, none⟩ = some (.int .i64 (hd bs[j])) ∧ 0 < pn := fun W j hj h hne => by
          obtain ⟨vb', vo', he, _, y'⟩ := rowAt_cell (RowAt.below HVs.out rfl h) j (by omega)
          simp at he
          obtain ⟨rfl, rfl⟩ := he
          have hrw := (HEa.out j hj (by omega)).below rfl h
          obtain ⟨a2, c2', e2, _, _, C2⟩ := ints_open hrw
          have hpos := List.length_pos_iff.2 hne
          obtain ⟨pb, po, rfl, _, hx⟩ := C2.out 0 hpos
          rw [e2] at y'
          refine ⟨pb, po, _, c2', y', ?_, hpos⟩
          have e3 : hd bs[j] = bs[j][0] := hd_at hpos
          rw [e3]
          simpa using hx
        have HHd := Lib.hid hHd
        clear hHd hvi
        by_cases hok : BlkOk t f bs[i]
        · rw [blkB_yes hok] at HIB
          by_cases h0 : i = 0
          · have hone : OneOk t f bs i hlt := ⟨hok, fun j hj => by omega⟩
            have hi0 : ¬ (0 : Int) < (i : Int) := by omega
            have hi0n : ¬ 0 < i := by omega
            have hi0d : decide ((0 : Int) < (i : Int)) = false := decide_eq_false hi0
            clear hok HHd h0
            go_upto_region 7 with fail
            refine wp_region_held_drew (S := (fun w' => w'.cell? ⟨w.heap.size, 0, none⟩ = some (.slice c0 t.net.stops.length d0) ∧ w'.cell? ⟨w.heap.size, 1, none⟩ = some (.slice c1 t.net.lines.length d1) ∧ w'.cell? ⟨w.heap.size, 2, none⟩ = some (.slice c2 t.trips.length d2) ∧ w'.cell? ⟨w.heap.size + 1, 0, none⟩ = some (.slice fa f.dead.length fc) ∧ w'.cell? ⟨w.heap.size + 1, 1, none⟩ = some (.int .i64 f.turn))) (by kernel_rfl) ?_ (fun hHeld => ?_)
            · exact ⟨p0, p1, p2, q0, q1⟩
            refine wpAnyH_take (i := 0) (v := ?_) (by simp only [List.getElem?_toArray, List.getElem?_cons_zero]; rfl) (by kernel_rfl) (by kernel_rfl) (by kernel_rfl) (by exact fun _ _ _ h => h) (Or.inl ⟨by rfl, ?_⟩) (by assumption) ?_
            rotate_left
            · intro w' hSw; obtain ⟨e0, e1, e2, e3, e4⟩ := hSw
              go_simp; try with_reducible rfl
            try simp only [Act.put, List.setIfInBounds_toArray, List.set_cons_zero, List.set_cons_succ]
            refine wpAnyH_take (i := 1) (v := ?_) (by simp only [List.getElem?_toArray, List.getElem?_cons_succ, List.getElem?_cons_zero]; rfl) (by kernel_rfl) (by kernel_rfl) (by kernel_rfl) (by exact fun _ _ _ h => h) (Or.inl ⟨by rfl, ?_⟩) (by assumption) ?_
            rotate_left
            · intro w' hSw; obtain ⟨e0, e1, e2, e3, e4⟩ := hSw
              go_simp; try with_reducible rfl
            try simp only [Act.put, List.setIfInBounds_toArray, List.set_cons_zero, List.set_cons_succ]
            refine wpAnyH_take (i := 2) (v := ?_) (by simp only [List.getElem?_toArray, List.getElem?_cons_succ, List.getElem?_cons_zero]; rfl) (by kernel_rfl) (by kernel_rfl) (by kernel_rfl) (by exact fun _ _ _ h => h) (Or.inl ⟨by rfl, ?_⟩) (by assumption) ?_
            rotate_left
            · intro w' hSw; obtain ⟨e0, e1, e2, e3, e4⟩ := hSw
              go_simp; try with_reducible rfl
            try simp only [Act.put, List.setIfInBounds_toArray, List.set_cons_zero, List.set_cons_succ]
            refine wpAnyH_ready (rs := [3]) (by kernel_rfl) (by simp) ?_
            refine AllReadyH.cons (by simp only [List.getElem?_toArray, List.getElem?_cons_succ, List.getElem?_cons_zero]; rfl) (fun K hK => ?_) AllReadyH.nil
            go_simp
            go_at_call 68
            refine (HIB.out _ HB.out.1.drew).mono ?_
            rintro e w2 ⟨rfl, hb⟩
            have rbw : Below wr.heap.size wr w2 := (Below.refl _ _).drew.trans hb
            have hS2 : w2.cell? ⟨w.heap.size, 0, none⟩ = some (.slice c0 t.net.stops.length d0) ∧ w2.cell? ⟨w.heap.size, 1, none⟩ = some (.slice c1 t.net.lines.length d1) ∧ w2.cell? ⟨w.heap.size, 2, none⟩ = some (.slice c2 t.trips.length d2) ∧ w2.cell? ⟨w.heap.size + 1, 0, none⟩ = some (.slice fa f.dead.length fc) ∧ w2.cell? ⟨w.heap.size + 1, 1, none⟩ = some (.int .i64 f.turn) := ⟨bkeep rbw p0, bkeep rbw p1, bkeep rbw p2, bkeep rbw q0, bkeep rbw q1⟩
            have HB2 : Hid (Below w.heap.size w w2 ∧ S < w2.heap.size) := ⟨HB.out.1.trans (rbw.mono HB.out.1.size), Nat.lt_of_lt_of_le HB.out.2 rbw.size⟩
            have HSv2 := Lib.hid (HSv.out.keep rbw)
            clear hb rbw
            go_wp2_with fail
            refine hK.out _ _ hS2 (fun hH3 => ?_)
            obtain ⟨p0, p1, p2, q0, q1⟩ := hS2
            clear hK K
            try simp only [Act.put, List.setIfInBounds_toArray, List.set_cons_zero, List.set_cons_succ]
            refine wpAnyH_take (i := 4) (v := ?_) (by simp only [List.getElem?_toArray, List.getElem?_cons_succ, List.getElem?_cons_zero]; rfl) (by kernel_rfl) (by kernel_rfl) (by kernel_rfl) (by exact fun _ _ _ h => h) (Or.inl ⟨by rfl, ?_⟩) (by assumption) ?_
            rotate_left
            · intro w' hSw; obtain ⟨e0, e1, e2, e3, e4⟩ := hSw
              go_simp; try with_reducible rfl
            try simp only [Act.put, List.setIfInBounds_toArray, List.set_cons_zero, List.set_cons_succ]
            refine wpAnyH_take (i := 5) (v := ?_) (by simp only [List.getElem?_toArray, List.getElem?_cons_succ, List.getElem?_cons_zero]; rfl) (by kernel_rfl) (by kernel_rfl) (by kernel_rfl) (by exact fun _ _ _ h => h) (Or.inl ⟨by rfl, ?_⟩) (by assumption) ?_
            rotate_left
            · intro w' hSw; obtain ⟨e0, e1, e2, e3, e4⟩ := hSw
              go_simp; try with_reducible rfl
            try simp only [Act.put, List.setIfInBounds_toArray, List.set_cons_zero, List.set_cons_succ]
            refine wpAnyH_take (i := 6) (v := ?_) (by simp only [List.getElem?_toArray, List.getElem?_cons_succ, List.getElem?_cons_zero]; rfl) (by kernel_rfl) (by kernel_rfl) (by kernel_rfl) (by exact fun _ _ _ h => h) (Or.inl ⟨by rfl, ?_⟩) (by assumption) ?_
            rotate_left
            · intro w' hSw; obtain ⟨e0, e1, e2, e3, e4⟩ := hSw
              go_simp; try with_reducible rfl
            try simp only [Act.put, List.setIfInBounds_toArray, List.set_cons_zero, List.set_cons_succ]
            refine wpAnyH_take (i := 7) (v := ?_) (by simp only [List.getElem?_toArray, List.getElem?_cons_succ, List.getElem?_cons_zero]; rfl) (by kernel_rfl) (by kernel_rfl) (by kernel_rfl) (by exact fun _ _ _ h => h) (Or.inl ⟨by rfl, ?_⟩) (by assumption) ?_
            rotate_left
            · intro w' hSw; obtain ⟨e0, e1, e2, e3, e4⟩ := hSw
              go_simp; try with_reducible rfl
            try simp only [Act.put, List.setIfInBounds_toArray, List.set_cons_zero, List.set_cons_succ]
            refine wpAnyH_take (i := 8) (v := ?_) (by simp only [List.getElem?_toArray, List.getElem?_cons_succ, List.getElem?_cons_zero]; rfl) (by kernel_rfl) (by kernel_rfl) (by kernel_rfl) (by exact fun _ _ _ h => h) (Or.inl ⟨by rfl, ?_⟩) (by assumption) ?_
            rotate_left
            · intro w' hSw; obtain ⟨e0, e1, e2, e3, e4⟩ := hSw
              go_simp; try with_reducible rfl
            try simp only [Act.put, List.setIfInBounds_toArray, List.set_cons_zero, List.set_cons_succ]
            refine wpAnyH_take (i := 9) (v := undef) (by simp only [List.getElem?_toArray, List.getElem?_cons_succ, List.getElem?_cons_zero]; rfl) (by kernel_rfl) (by kernel_rfl) (by kernel_rfl) (by exact fun _ _ _ h => h) (Or.inr ⟨by rfl, rfl⟩) (by assumption) ?_
            try simp only [Act.put, List.setIfInBounds_toArray, List.set_cons_zero, List.set_cons_succ]
            refine wpAnyH_take (i := 10) (v := undef) (by simp only [List.getElem?_toArray, List.getElem?_cons_succ, List.getElem?_cons_zero]; rfl) (by kernel_rfl) (by kernel_rfl) (by kernel_rfl) (by exact fun _ _ _ h => h) (Or.inr ⟨by rfl, rfl⟩) (by assumption) ?_
            try simp only [Act.put, List.setIfInBounds_toArray, List.set_cons_zero, List.set_cons_succ]
            refine wpAnyH_take (i := 11) (v := undef) (by simp only [List.getElem?_toArray, List.getElem?_cons_succ, List.getElem?_cons_zero]; rfl) (by kernel_rfl) (by kernel_rfl) (by kernel_rfl) (by exact fun _ _ _ h => h) (Or.inr ⟨by rfl, rfl⟩) (by assumption) ?_
            try simp only [Act.put, List.setIfInBounds_toArray, List.set_cons_zero, List.set_cons_succ]
            refine wpAnyH_take (i := 12) (v := undef) (by simp only [List.getElem?_toArray, List.getElem?_cons_succ, List.getElem?_cons_zero]; rfl) (by kernel_rfl) (by kernel_rfl) (by kernel_rfl) (by exact fun _ _ _ h => h) (Or.inr ⟨by rfl, rfl⟩) (by assumption) ?_
            try simp only [Act.put, List.setIfInBounds_toArray, List.set_cons_zero, List.set_cons_succ]
            refine wpAnyH_take (i := 13) (v := undef) (by simp only [List.getElem?_toArray, List.getElem?_cons_succ, List.getElem?_cons_zero]; rfl) (by kernel_rfl) (by kernel_rfl) (by kernel_rfl) (by exact fun _ _ _ h => h) (Or.inr ⟨by rfl, rfl⟩) (by assumption) ?_
            try simp only [Act.put, List.setIfInBounds_toArray, List.set_cons_zero, List.set_cons_succ]
            refine wpAnyH_take (i := 14) (v := undef) (by simp only [List.getElem?_toArray, List.getElem?_cons_succ, List.getElem?_cons_zero]; rfl) (by kernel_rfl) (by kernel_rfl) (by kernel_rfl) (by exact fun _ _ _ h => h) (Or.inr ⟨by rfl, rfl⟩) (by assumption) ?_
            try simp only [Act.put, List.setIfInBounds_toArray, List.set_cons_zero, List.set_cons_succ]
            refine wpAnyH_take (i := 15) (v := undef) (by simp only [List.getElem?_toArray, List.getElem?_cons_succ, List.getElem?_cons_zero]; rfl) (by kernel_rfl) (by kernel_rfl) (by kernel_rfl) (by exact fun _ _ _ h => h) (Or.inr ⟨by rfl, rfl⟩) (by assumption) ?_
            try simp only [Act.put, List.setIfInBounds_toArray, List.set_cons_zero, List.set_cons_succ]
            refine wpAnyH_take (i := 16) (v := undef) (by simp only [List.getElem?_toArray, List.getElem?_cons_succ, List.getElem?_cons_zero]; rfl) (by kernel_rfl) (by kernel_rfl) (by kernel_rfl) (by exact fun _ _ _ h => h) (Or.inr ⟨by rfl, rfl⟩) (by assumption) ?_
            try simp only [Act.put, List.setIfInBounds_toArray, List.set_cons_zero, List.set_cons_succ]
            refine wpAnyH_take (i := 17) (v := undef) (by simp only [List.getElem?_toArray, List.getElem?_cons_succ, List.getElem?_cons_zero]; rfl) (by kernel_rfl) (by kernel_rfl) (by kernel_rfl) (by exact fun _ _ _ h => h) (Or.inr ⟨by rfl, rfl⟩) (by assumption) ?_
            try simp only [Act.put, List.setIfInBounds_toArray, List.set_cons_zero, List.set_cons_succ]
            refine wpAnyH_take (i := 18) (v := undef) (by simp only [List.getElem?_toArray, List.getElem?_cons_succ, List.getElem?_cons_zero]; rfl) (by kernel_rfl) (by kernel_rfl) (by kernel_rfl) (by exact fun _ _ _ h => h) (Or.inr ⟨by rfl, rfl⟩) (by assumption) ?_
            try simp only [Act.put, List.setIfInBounds_toArray, List.set_cons_zero, List.set_cons_succ]
            refine wpAnyH_take (i := 19) (v := undef) (by simp only [List.getElem?_toArray, List.getElem?_cons_succ, List.getElem?_cons_zero]; rfl) (by kernel_rfl) (by kernel_rfl) (by kernel_rfl) (by exact fun _ _ _ h => h) (Or.inr ⟨by rfl, rfl⟩) (by assumption) ?_
            try simp only [Act.put, List.setIfInBounds_toArray, List.set_cons_zero, List.set_cons_succ]
            refine wpAnyH_take (i := 20) (v := ?_) (by simp only [List.getElem?_toArray, List.getElem?_cons_succ, List.getElem?_cons_zero]; rfl) (by kernel_rfl) (by kernel_rfl) (by kernel_rfl) (by exact fun _ _ _ h => h) (Or.inl ⟨by rfl, ?_⟩) (by assumption) ?_
            rotate_left
            · intro w' hSw; obtain ⟨e0, e1, e2, e3, e4⟩ := hSw
              go_simp; try with_reducible rfl
            try simp only [Act.put, List.setIfInBounds_toArray, List.set_cons_zero, List.set_cons_succ]
            refine wpAnyH_take (i := 21) (v := ?_) (by simp only [List.getElem?_toArray, List.getElem?_cons_succ, List.getElem?_cons_zero]; rfl) (by kernel_rfl) (by kernel_rfl) (by kernel_rfl) (by exact fun _ _ _ h => h) (Or.inl ⟨by rfl, ?_⟩) (by assumption) ?_
            rotate_left
            · intro w' hSw; obtain ⟨e0, e1, e2, e3, e4⟩ := hSw
              go_simp; try with_reducible rfl
            try simp only [Act.put, List.setIfInBounds_toArray, List.set_cons_zero, List.set_cons_succ]
            refine wpAnyH_done (by kernel_rfl) ?_ _
            have HOne := Lib.hid hone
            clear hone
            clear HB HSv
            go_wp2_with fail
            go_loopw [49] (fun q wr2 => ∃ k : Nat, k ≤ bs[i].length ∧ q = .int .i64 k ∧ Hid ((seenT t bs i k).Nodup) ∧ Hid (Serv wr2 S (seenT t bs i k)) ∧
                wr2.cell? ⟨w.heap.size, 0, none⟩ = some (.slice c0 t.net.stops.length d0) ∧ wr2.cell? ⟨w.heap.size, 1, none⟩ = some (.slice c1 t.net.lines.length d1) ∧ wr2.cell? ⟨w.heap.size, 2, none⟩ = some (.slice c2 t.trips.length d2) ∧ wr2.cell? ⟨w.heap.size + 1, 0, none⟩ = some (.slice fa f.dead.length fc) ∧ wr2.cell? ⟨w.heap.size + 1, 1, none⟩ = some (.int .i64 f.turn) ∧ Hid (Below w.heap.size w wr2 ∧ S < wr2.heap.size))
              (fun q _ => bs[i].length - (RowKit.intOf q).toNat)
            case atStart => exact ⟨0, Nat.zero_le _, rfl, HNd.out, HSv2.out, p0, p1, p2, q0, q1, HB2.out⟩
            case round =>
              clear p0 p1 p2 q0 q1 HB2 HSv2
              obtain ⟨k, hk, rfl, HNk, HSk, p0, p1, p2, q0, q1, HB⟩ := hrel
              have hSl := HB.out.2
              by_cases hkl : k < bs[i].length
              · have hrw := HRow.out _ HB.out.1
                obtain ⟨_, _, e9, _, _, C9⟩ := ints_open hrw
                obtain ⟨zb, zo, e8, _, z⟩ := C9.out k hkl
                simp at e9
                rw [← e9.1] at e8
                cases e8
                clear e9 C9
                have hk1 : (k : Int) < (bs[i].length : Int) := by omega
                have hfd := (HOne.out.1.2 k hkl hkl).1
                have HPl := Lib.hid (fun W (h : Below w.heap.size w W) => tripPlace_any _ t.trips bs[i][k] W ((tt_net (HAt.out.below rfl h)).2) (by have := hlen; omega) HG.out.1.asc')
                have hpl := found_lt hfd
                have hp12 : pl t bs[i][k] < 12 := by omega
                have hcell := HSk.out.1 (pl t bs[i][k]) hp12
                have HRw := Lib.hid (seen_row (t := t) (show i < bs.length from hlt) hkl)
                have HNo2 : Hid (pl t bs[i][k] ∈ seenT t bs i k → blksB t f bs = false) := fun hm => blksB_no (fun g => by
                  have h1 := seen_nodup (t := t) (bs := bs) (i := i) (k := k + 1) hlt g.2.1
                  rw [seen_row hlt hkl] at h1
                  exact (List.nodup_append.1 h1).2.2 _ hm _ (by simp) rfl)
                have HNd2 : Hid (pl t bs[i][k] ∉ seenT t bs i k → (seenT t bs i (k + 1)).Nodup) := fun hm => by
                  rw [seen_row hlt hkl]
                  exact List.nodup_append.2 ⟨HNk.out, by simp, fun a ha b hb e => by simp at hb; subst hb; subst e; exact hm ha⟩
                have HPl2 : Hid (∀ W : World, Below w.heap.size w W → Calls Try.prog 69 #[.slice c2 t.trips.length d2, .int .i64 bs[i][k]] W fun e w' => e = .returned (.tuple #[.int .i64 (pl t bs[i][k] : Nat), .bool (foundB bs[i][k] t.trips)]) ∧ Below W.heap.size W w') := HPl.out
                clear HPl hrw hfd hpl HNk
                generalize hid : bs[i][k] = id at *
                clear hid
                generalize foundB id t.trips = fb at *
                generalize hpp : pl t id = p at *
                clear hpp
                have hpi : ((p : Nat) : Int) < 12 := by omega
                go_wp2_with fail
                go_at_call 69
                refine (HPl2.out _ HB.out.1).mono ?_
                rintro e w3 ⟨rfl, hb3⟩
                have HB3 : Hid (Below w.heap.size w w3 ∧ S < w3.heap.size) := ⟨HB.out.1.trans (hb3.mono HB.out.1.size), Nat.lt_of_lt_of_le hSl hb3.size⟩
                have HSv3 := Lib.hid (HSk.out.keep hb3)
                have p0 := bkeep hb3 p0
                have p1 := bkeep hb3 p1
                have p2 := bkeep hb3 p2
                have q0 := bkeep hb3 q0
                have q1 := bkeep hb3 q1
                have hc3 := bkeep hb3 hcell
                have hfz := HSv3.out.2
                clear hb3 hcell HB HSk z
                by_cases hm : p ∈ seenT t bs i k
                · have HF := Lib.hid (HNo2.out hm)
                  rw [decide_eq_true hm] at hc3
                  go_wp2_with fail
                  go_ret
                  exact ⟨by rw [HF.out]; rfl, HB3.out.1⟩
                · have HN3 := Lib.hid (HNd2.out hm)
                  rw [decide_eq_false hm] at hc3
                  have hzS := HB3.out.1.size
                  have hS3 := HB3.out.2
                  clear hm HNo2 HNd2
                  go_wp2_with fail
                  go_roundw
                  case rel =>
                    refine ⟨k + 1, by omega, by go_num, HN3, ?_, (set1_cell (by dsimp only; omega)).trans p0, (set1_cell (by dsimp only; omega)).trans p1, (set1_cell (by dsimp only; omega)).trans p2, (set1_cell (by dsimp only; omega)).trans q0, (set1_cell (by dsimp only; omega)).trans q1, HB3.out.1.setCell (p := ⟨S, _, none⟩) (by dsimp only; omega) _, by simp [World.setCell]; omega⟩
                    show Serv _ _ _
                    rw [HRw.out]
                    exact HSv3.out.add hp12
                  case measure => simp [RowKit.intOf]; omega
              · have hkE : k = bs[i].length := by omega
                subst hkE
                have HTo2 := Lib.hid (blksTo_succ hlt HTo.out HOne.out)
                have HNx := HNk.out
                have HSx := HSk.out
                rw [seen_next hlt] at HNx HSx
                have HNx := Lib.hid HNx
                have HSx := Lib.hid HSx
                clear HNk HSk
                go_wp2_with fail
                refine ⟨⟨i + 1, by omega, by go_num, HTo2, HNx, HSx, p0, p1, p2, q0, q1, HB⟩, ?_⟩
                simp [RowKit.intOf]; omega
          · obtain ⟨j, rfl⟩ : ∃ j, i = j + 1 := ⟨i - 1, by omega⟩
            have hwj : IntKind.i64.wrap (j : Int) = (j : Int) := IntWalk.i64_in _ (by omega)
            have hji : ((j + 1 : Nat) : Int) - 1 = (j : Int) := by omega
            have hj1 : (j : Int) < (bs.length : Int) := by omega
            have hjp : (0 : Int) < ((j + 1 : Nat) : Int) := by omega
            have hne1 : bs[j]'(by omega) ≠ [] := (HTo.out j (by omega) (by omega)).1.1
            obtain ⟨pb, po, pn, pc, z1, z2, hpn⟩ := HHd.out wr j (by omega) HB.out.1 hne1
            have hpn1 : (0 : Int) < (pn : Int) := by omega
            have hrpos := List.length_pos_iff.2 hok.1
            have hrp1 : (0 : Int) < (bs[j + 1].length : Int) := by omega
            obtain ⟨_, _, e9, _, _, C9⟩ := ints_open (HRow.out wr HB.out.1)
            obtain ⟨rb, ro, e8, _, z0⟩ := C9.out 0 hrpos
            simp at e9
            rw [← e9.1] at e8
            subst e8
            have e7 : bs[j + 1][0] = hd bs[j + 1] := (hd_at hrpos).symm
            rw [e7] at z0
            simp only [Nat.add_zero] at z0
            have HOk := Lib.hid hok
            clear hok e7 e9 C9 HHd hne1
            by_cases hle : hd bs[j + 1] ≤ hd (bs[j]'(by omega))
            · have HFa : Hid (blksB t f bs = false) := HNoB.out (fun h => by have := h.2 j rfl; omega)
              generalize hd bs[j + 1] = hA at *
              generalize hd (bs[j]'(by omega)) = hB at *
              go_upto_region 7 with fail
              refine wp_region_held_drew (S := (fun w' => w'.cell? ⟨w.heap.size, 0, none⟩ = some (.slice c0 t.net.stops.length d0) ∧ w'.cell? ⟨w.heap.size, 1, none⟩ = some (.slice c1 t.net.lines.length d1) ∧ w'.cell? ⟨w.heap.size, 2, none⟩ = some (.slice c2 t.trips.length d2) ∧ w'.cell? ⟨w.heap.size + 1, 0, none⟩ = some (.slice fa f.dead.length fc) ∧ w'.cell? ⟨w.heap.size + 1, 1, none⟩ = some (.int .i64 f.turn) ∧ w'.cell? ⟨rb, ro, none⟩ = some (.int .i64 hA) ∧ w'.cell? ⟨vb, vo + j, none⟩ = some (.slice (some ⟨pb, po, none⟩) pn pc) ∧ w'.cell? ⟨pb, po, none⟩ = some (.int .i64 hB))) (by kernel_rfl) ?_ (fun hHeld => ?_)
              · exact ⟨p0, p1, p2, q0, q1, z0, z1, z2⟩
              refine wpAnyH_take (i := 0) (v := ?_) (by simp only [List.getElem?_toArray, List.getElem?_cons_zero]; rfl) (by kernel_rfl) (by kernel_rfl) (by kernel_rfl) (by exact fun _ _ _ h => h) (Or.inl ⟨by rfl, ?_⟩) (by assumption) ?_
              rotate_left
              · intro w' hSw; obtain ⟨e0, e1, e2, e3, e4, e5, e6, e7⟩ := hSw
                go_simp; try with_reducible rfl
              try simp only [Act.put, List.setIfInBounds_toArray, List.set_cons_zero, List.set_cons_succ]
              refine wpAnyH_take (i := 1) (v := ?_) (by simp only [List.getElem?_toArray, List.getElem?_cons_succ, List.getElem?_cons_zero]; rfl) (by kernel_rfl) (by kernel_rfl) (by kernel_rfl) (by exact fun _ _ _ h => h) (Or.inl ⟨by rfl, ?_⟩) (by assumption) ?_
              rotate_left
              · intro w' hSw; obtain ⟨e0, e1, e2, e3, e4, e5, e6, e7⟩ := hSw
                go_simp; try with_reducible rfl
              try simp only [Act.put, List.setIfInBounds_toArray, List.set_cons_zero, List.set_cons_succ]
              refine wpAnyH_take (i := 2) (v := ?_) (by simp only [List.getElem?_toArray, List.getElem?_cons_succ, List.getElem?_cons_zero]; rfl) (by kernel_rfl) (by kernel_rfl) (by kernel_rfl) (by exact fun _ _ _ h => h) (Or.inl ⟨by rfl, ?_⟩) (by assumption) ?_
              rotate_left
              · intro w' hSw; obtain ⟨e0, e1, e2, e3, e4, e5, e6, e7⟩ := hSw
                go_simp; try with_reducible rfl
              try simp only [Act.put, List.setIfInBounds_toArray, List.set_cons_zero, List.set_cons_succ]
              refine wpAnyH_ready (rs := [3]) (by kernel_rfl) (by simp) ?_
              refine AllReadyH.cons (by simp only [List.getElem?_toArray, List.getElem?_cons_succ, List.getElem?_cons_zero]; rfl) (fun K hK => ?_) AllReadyH.nil
              go_simp
              go_at_call 68
              refine (HIB.out _ HB.out.1.drew).mono ?_
              rintro e w2 ⟨rfl, hb⟩
              have rbw : Below wr.heap.size wr w2 := (Below.refl _ _).drew.trans hb
              have hS2 : w2.cell? ⟨w.heap.size, 0, none⟩ = some (.slice c0 t.net.stops.length d0) ∧ w2.cell? ⟨w.heap.size, 1, none⟩ = some (.slice c1 t.net.lines.length d1) ∧ w2.cell? ⟨w.heap.size, 2, none⟩ = some (.slice c2 t.trips.length d2) ∧ w2.cell? ⟨w.heap.size + 1, 0, none⟩ = some (.slice fa f.dead.length fc) ∧ w2.cell? ⟨w.heap.size + 1, 1, none⟩ = some (.int .i64 f.turn) ∧ w2.cell? ⟨rb, ro, none⟩ = some (.int .i64 hA) ∧ w2.cell? ⟨vb, vo + j, none⟩ = some (.slice (some ⟨pb, po, none⟩) pn pc) ∧ w2.cell? ⟨pb, po, none⟩ = some (.int .i64 hB) := ⟨bkeep rbw p0, bkeep rbw p1, bkeep rbw p2, bkeep rbw q0, bkeep rbw q1, bkeep rbw z0, bkeep rbw z1, bkeep rbw z2⟩
              have HB2 : Hid (Below w.heap.size w w2 ∧ S < w2.heap.size) := ⟨HB.out.1.trans (rbw.mono HB.out.1.size), Nat.lt_of_lt_of_le HB.out.2 rbw.size⟩
              have HSv2 := Lib.hid (HSv.out.keep rbw)
              clear hb rbw
              go_wp2_with fail
              refine hK.out _ _ hS2 (fun hH3 => ?_)
              obtain ⟨p0, p1, p2, q0, q1, z0, z1, z2⟩ := hS2
              clear hK K
              try simp only [Act.put, List.setIfInBounds_toArray, List.set_cons_zero, List.set_cons_succ]
              refine wpAnyH_take (i := 4) (v := ?_) (by simp only [List.getElem?_toArray, List.getElem?_cons_succ, List.getElem?_cons_zero]; rfl) (by kernel_rfl) (by kernel_rfl) (by kernel_rfl) (by exact fun _ _ _ h => h) (Or.inl ⟨by rfl, ?_⟩) (by assumption) ?_
              rotate_left
              · intro w' hSw; obtain ⟨e0, e1, e2, e3, e4, e5, e6, e7⟩ := hSw
                go_simp; try with_reducible rfl
              try simp only [Act.put, List.setIfInBounds_toArray, List.set_cons_zero, List.set_cons_succ]
              refine wpAnyH_take (i := 5) (v := ?_) (by simp only [List.getElem?_toArray, List.getElem?_cons_succ, List.getElem?_cons_zero]; rfl) (by kernel_rfl) (by kernel_rfl) (by kernel_rfl) (by exact fun _ _ _ h => h) (Or.inl ⟨by rfl, ?_⟩) (by assumption) ?_
              rotate_left
              · intro w' hSw; obtain ⟨e0, e1, e2, e3, e4, e5, e6, e7⟩ := hSw
                go_simp; try with_reducible rfl
              try simp only [Act.put, List.setIfInBounds_toArray, List.set_cons_zero, List.set_cons_succ]
              refine wpAnyH_take (i := 6) (v := ?_) (by simp only [List.getElem?_toArray, List.getElem?_cons_succ, List.getElem?_cons_zero]; rfl) (by kernel_rfl) (by kernel_rfl) (by kernel_rfl) (by exact fun _ _ _ h => h) (Or.inl ⟨by rfl, ?_⟩) (by assumption) ?_
              rotate_left
              · intro w' hSw; obtain ⟨e0, e1, e2, e3, e4, e5, e6, e7⟩ := hSw
                go_simp; try with_reducible rfl
              try simp only [Act.put, List.setIfInBounds_toArray, List.set_cons_zero, List.set_cons_succ]
              refine wpAnyH_take (i := 7) (v := ?_) (by simp only [List.getElem?_toArray, List.getElem?_cons_succ, List.getElem?_cons_zero]; rfl) (by kernel_rfl) (by kernel_rfl) (by kernel_rfl) (by exact fun _ _ _ h => h) (Or.inl ⟨by rfl, ?_⟩) (by assumption) ?_
              rotate_left
              · intro w' hSw; obtain ⟨e0, e1, e2, e3, e4, e5, e6, e7⟩ := hSw
                go_simp; try with_reducible rfl
              try simp only [Act.put, List.setIfInBounds_toArray, List.set_cons_zero, List.set_cons_succ]
              refine wpAnyH_take (i := 8) (v := ?_) (by simp only [List.getElem?_toArray, List.getElem?_cons_succ, List.getElem?_cons_zero]; rfl) (by kernel_rfl) (by kernel_rfl) (by kernel_rfl) (by exact fun _ _ _ h => h) (Or.inl ⟨by rfl, ?_⟩) (by assumption) ?_
              rotate_left
              · intro w' hSw; obtain ⟨e0, e1, e2, e3, e4, e5, e6, e7⟩ := hSw
                go_simp; try with_reducible rfl
              try simp only [Act.put, List.setIfInBounds_toArray, List.set_cons_zero, List.set_cons_succ]
              refine wpAnyH_take (i := 9) (v := ?_) (by simp only [List.getElem?_toArray, List.getElem?_cons_succ, List.getElem?_cons_zero]; rfl) (by kernel_rfl) (by kernel_rfl) (by kernel_rfl) (by exact fun _ _ _ h => h) (Or.inl ⟨by rfl, ?_⟩) (by assumption) ?_
              rotate_left
              · intro w' hSw; obtain ⟨e0, e1, e2, e3, e4, e5, e6, e7⟩ := hSw
                go_simp; try with_reducible rfl
              try simp only [Act.put, List.setIfInBounds_toArray, List.set_cons_zero, List.set_cons_succ]
              refine wpAnyH_take (i := 10) (v := ?_) (by simp only [List.getElem?_toArray, List.getElem?_cons_succ, List.getElem?_cons_zero]; rfl) (by kernel_rfl) (by kernel_rfl) (by kernel_rfl) (by exact fun _ _ _ h => h) (Or.inl ⟨by rfl, ?_⟩) (by assumption) ?_
              rotate_left
              · intro w' hSw; obtain ⟨e0, e1, e2, e3, e4, e5, e6, e7⟩ := hSw
                go_simp; try with_reducible rfl
              try simp only [Act.put, List.setIfInBounds_toArray, List.set_cons_zero, List.set_cons_succ]
              refine wpAnyH_take (i := 11) (v := ?_) (by simp only [List.getElem?_toArray, List.getElem?_cons_succ, List.getElem?_cons_zero]; rfl) (by kernel_rfl) (by kernel_rfl) (by kernel_rfl) (by exact fun _ _ _ h => h) (Or.inl ⟨by rfl, ?_⟩) (by assumption) ?_
              rotate_left
              · intro w' hSw; obtain ⟨e0, e1, e2, e3, e4, e5, e6, e7⟩ := hSw
                go_simp; try with_reducible rfl
              try simp only [Act.put, List.setIfInBounds_toArray, List.set_cons_zero, List.set_cons_succ]
              refine wpAnyH_take (i := 12) (v := ?_) (by simp only [List.getElem?_toArray, List.getElem?_cons_succ, List.getElem?_cons_zero]; rfl) (by kernel_rfl) (by kernel_rfl) (by kernel_rfl) (by exact fun _ _ _ h => h) (Or.inl ⟨by rfl, ?_⟩) (by assumption) ?_
              rotate_left
              · intro w' hSw; obtain ⟨e0, e1, e2, e3, e4, e5, e6, e7⟩ := hSw
                go_simp; try with_reducible rfl
              try simp only [Act.put, List.setIfInBounds_toArray, List.set_cons_zero, List.set_cons_succ]
              refine wpAnyH_take (i := 13) (v := ?_) (by simp only [List.getElem?_toArray, List.getElem?_cons_succ, List.getElem?_cons_zero]; rfl) (by kernel_rfl) (by kernel_rfl) (by kernel_rfl) (by exact fun _ _ _ h => h) (Or.inl ⟨by rfl, ?_⟩) (by assumption) ?_
              rotate_left
              · intro w' hSw; obtain ⟨e0, e1, e2, e3, e4, e5, e6, e7⟩ := hSw
                go_simp; try with_reducible rfl
              try simp only [Act.put, List.setIfInBounds_toArray, List.set_cons_zero, List.set_cons_succ]
              refine wpAnyH_take (i := 14) (v := ?_) (by simp only [List.getElem?_toArray, List.getElem?_cons_succ, List.getElem?_cons_zero]; rfl) (by kernel_rfl) (by kernel_rfl) (by kernel_rfl) (by exact fun _ _ _ h => h) (Or.inl ⟨by rfl, ?_⟩) (by assumption) ?_
              rotate_left
              · intro w' hSw; obtain ⟨e0, e1, e2, e3, e4, e5, e6, e7⟩ := hSw
                go_simp; try with_reducible rfl
              try simp only [Act.put, List.setIfInBounds_toArray, List.set_cons_zero, List.set_cons_succ]
              refine wpAnyH_take (i := 15) (v := ?_) (by simp only [List.getElem?_toArray, List.getElem?_cons_succ, List.getElem?_cons_zero]; rfl) (by kernel_rfl) (by kernel_rfl) (by kernel_rfl) (by exact fun _ _ _ h => h) (Or.inl ⟨by rfl, ?_⟩) (by assumption) ?_
              rotate_left
              · intro w' hSw; obtain ⟨e0, e1, e2, e3, e4, e5, e6, e7⟩ := hSw
                go_simp; try with_reducible rfl
              try simp only [Act.put, List.setIfInBounds_toArray, List.set_cons_zero, List.set_cons_succ]
              refine wpAnyH_take (i := 16) (v := ?_) (by simp only [List.getElem?_toArray, List.getElem?_cons_succ, List.getElem?_cons_zero]; rfl) (by kernel_rfl) (by kernel_rfl) (by kernel_rfl) (by exact fun _ _ _ h => h) (Or.inl ⟨by rfl, ?_⟩) (by assumption) ?_
              rotate_left
              · intro w' hSw; obtain ⟨e0, e1, e2, e3, e4, e5, e6, e7⟩ := hSw
                go_simp; try with_reducible rfl
              try simp only [Act.put, List.setIfInBounds_toArray, List.set_cons_zero, List.set_cons_succ]
              refine wpAnyH_take (i := 17) (v := ?_) (by simp only [List.getElem?_toArray, List.getElem?_cons_succ, List.getElem?_cons_zero]; rfl) (by kernel_rfl) (by kernel_rfl) (by kernel_rfl) (by exact fun _ _ _ h => h) (Or.inl ⟨by rfl, ?_⟩) (by assumption) ?_
              rotate_left
              · intro w' hSw; obtain ⟨e0, e1, e2, e3, e4, e5, e6, e7⟩ := hSw
                go_simp; try with_reducible rfl
              try simp only [Act.put, List.setIfInBounds_toArray, List.set_cons_zero, List.set_cons_succ]
              refine wpAnyH_take (i := 18) (v := ?_) (by simp only [List.getElem?_toArray, List.getElem?_cons_succ, List.getElem?_cons_zero]; rfl) (by kernel_rfl) (by kernel_rfl) (by kernel_rfl) (by exact fun _ _ _ h => h) (Or.inl ⟨by rfl, ?_⟩) (by assumption) ?_
              rotate_left
              · intro w' hSw; obtain ⟨e0, e1, e2, e3, e4, e5, e6, e7⟩ := hSw
                go_simp; try with_reducible rfl
              try simp only [Act.put, List.setIfInBounds_toArray, List.set_cons_zero, List.set_cons_succ]
              refine wpAnyH_take (i := 19) (v := ?_) (by simp only [List.getElem?_toArray, List.getElem?_cons_succ, List.getElem?_cons_zero]; rfl) (by kernel_rfl) (by kernel_rfl) (by kernel_rfl) (by exact fun _ _ _ h => h) (Or.inl ⟨by rfl, ?_⟩) (by assumption) ?_
              rotate_left
              · intro w' hSw; obtain ⟨e0, e1, e2, e3, e4, e5, e6, e7⟩ := hSw
                go_simp; try with_reducible rfl
              try simp only [Act.put, List.setIfInBounds_toArray, List.set_cons_zero, List.set_cons_succ]
              refine wpAnyH_take (i := 20) (v := ?_) (by simp only [List.getElem?_toArray, List.getElem?_cons_succ, List.getElem?_cons_zero]; rfl) (by kernel_rfl) (by kernel_rfl) (by kernel_rfl) (by exact fun _ _ _ h => h) (Or.inl ⟨by rfl, ?_⟩) (by assumption) ?_
              rotate_left
              · intro w' hSw; obtain ⟨e0, e1, e2, e3, e4, e5, e6, e7⟩ := hSw
                go_simp; try with_reducible rfl
              try simp only [Act.put, List.setIfInBounds_toArray, List.set_cons_zero, List.set_cons_succ]
              refine wpAnyH_take (i := 21) (v := ?_) (by simp only [List.getElem?_toArray, List.getElem?_cons_succ, List.getElem?_cons_zero]; rfl) (by kernel_rfl) (by kernel_rfl) (by kernel_rfl) (by exact fun _ _ _ h => h) (Or.inl ⟨by rfl, ?_⟩) (by assumption) ?_
              rotate_left
              · intro w' hSw; obtain ⟨e0, e1, e2, e3, e4, e5, e6, e7⟩ := hSw
                go_simp; try with_reducible rfl
              try simp only [Act.put, List.setIfInBounds_toArray, List.set_cons_zero, List.set_cons_succ]
              refine wpAnyH_done (by kernel_rfl) ?_ _
              clear p0 p1 p2 q0 q1
              go_wp2_with fail
              go_ret
              exact ⟨by rw [HFa.out]; rfl, HB2.out.1⟩
            · have hone : OneOk t f bs (j + 1) hlt := ⟨HOk.out, fun j' hj' => by (have e : j' = j := (by omega)); subst e; exact Int.not_le.1 hle⟩
              generalize hd bs[j + 1] = hA at *
              generalize hd (bs[j]'(by omega)) = hB at *
              go_upto_region 7 with fail
              refine wp_region_held_drew (S := (fun w' => w'.cell? ⟨w.heap.size, 0, none⟩ = some (.slice c0 t.net.stops.length d0) ∧ w'.cell? ⟨w.heap.size, 1, none⟩ = some (.slice c1 t.net.lines.length d1) ∧ w'.cell? ⟨w.heap.size, 2, none⟩ = some (.slice c2 t.trips.length d2) ∧ w'.cell? ⟨w.heap.size + 1, 0, none⟩ = some (.slice fa f.dead.length fc) ∧ w'.cell? ⟨w.heap.size + 1, 1, none⟩ = some (.int .i64 f.turn) ∧ w'.cell? ⟨rb, ro, none⟩ = some (.int .i64 hA) ∧ w'.cell? ⟨vb, vo + j, none⟩ = some (.slice (some ⟨pb, po, none⟩) pn pc) ∧ w'.cell? ⟨pb, po, none⟩ = some (.int .i64 hB))) (by kernel_rfl) ?_ (fun hHeld => ?_)
              · exact ⟨p0, p1, p2, q0, q1, z0, z1, z2⟩
              refine wpAnyH_take (i := 0) (v := ?_) (by simp only [List.getElem?_toArray, List.getElem?_cons_zero]; rfl) (by kernel_rfl) (by kernel_rfl) (by kernel_rfl) (by exact fun _ _ _ h => h) (Or.inl ⟨by rfl, ?_⟩) (by assumption) ?_
              rotate_left
              · intro w' hSw; obtain ⟨e0, e1, e2, e3, e4, e5, e6, e7⟩ := hSw
                go_simp; try with_reducible rfl
              try simp only [Act.put, List.setIfInBounds_toArray, List.set_cons_zero, List.set_cons_succ]
              refine wpAnyH_take (i := 1) (v := ?_) (by simp only [List.getElem?_toArray, List.getElem?_cons_succ, List.getElem?_cons_zero]; rfl) (by kernel_rfl) (by kernel_rfl) (by kernel_rfl) (by exact fun _ _ _ h => h) (Or.inl ⟨by rfl, ?_⟩) (by assumption) ?_
              rotate_left
              · intro w' hSw; obtain ⟨e0, e1, e2, e3, e4, e5, e6, e7⟩ := hSw
                go_simp; try with_reducible rfl
              try simp only [Act.put, List.setIfInBounds_toArray, List.set_cons_zero, List.set_cons_succ]
              refine wpAnyH_take (i := 2) (v := ?_) (by simp only [List.getElem?_toArray, List.getElem?_cons_succ, List.getElem?_cons_zero]; rfl) (by kernel_rfl) (by kernel_rfl) (by kernel_rfl) (by exact fun _ _ _ h => h) (Or.inl ⟨by rfl, ?_⟩) (by assumption) ?_
              rotate_left
              · intro w' hSw; obtain ⟨e0, e1, e2, e3, e4, e5, e6, e7⟩ := hSw
                go_simp; try with_reducible rfl
              try simp only [Act.put, List.setIfInBounds_toArray, List.set_cons_zero, List.set_cons_succ]
              refine wpAnyH_ready (rs := [3]) (by kernel_rfl) (by simp) ?_
              refine AllReadyH.cons (by simp only [List.getElem?_toArray, List.getElem?_cons_succ, List.getElem?_cons_zero]; rfl) (fun K hK => ?_) AllReadyH.nil
              go_simp
              go_at_call 68
              refine (HIB.out _ HB.out.1.drew).mono ?_
              rintro e w2 ⟨rfl, hb⟩
              have rbw : Below wr.heap.size wr w2 := (Below.refl _ _).drew.trans hb
              have hS2 : w2.cell? ⟨w.heap.size, 0, none⟩ = some (.slice c0 t.net.stops.length d0) ∧ w2.cell? ⟨w.heap.size, 1, none⟩ = some (.slice c1 t.net.lines.length d1) ∧ w2.cell? ⟨w.heap.size, 2, none⟩ = some (.slice c2 t.trips.length d2) ∧ w2.cell? ⟨w.heap.size + 1, 0, none⟩ = some (.slice fa f.dead.length fc) ∧ w2.cell? ⟨w.heap.size + 1, 1, none⟩ = some (.int .i64 f.turn) ∧ w2.cell? ⟨rb, ro, none⟩ = some (.int .i64 hA) ∧ w2.cell? ⟨vb, vo + j, none⟩ = some (.slice (some ⟨pb, po, none⟩) pn pc) ∧ w2.cell? ⟨pb, po, none⟩ = some (.int .i64 hB) := ⟨bkeep rbw p0, bkeep rbw p1, bkeep rbw p2, bkeep rbw q0, bkeep rbw q1, bkeep rbw z0, bkeep rbw z1, bkeep rbw z2⟩
              have HB2 : Hid (Below w.heap.size w w2 ∧ S < w2.heap.size) := ⟨HB.out.1.trans (rbw.mono HB.out.1.size), Nat.lt_of_lt_of_le HB.out.2 rbw.size⟩
              have HSv2 := Lib.hid (HSv.out.keep rbw)
              clear hb rbw
              go_wp2_with fail
              refine hK.out _ _ hS2 (fun hH3 => ?_)
              obtain ⟨p0, p1, p2, q0, q1, z0, z1, z2⟩ := hS2
              clear hK K
              try simp only [Act.put, List.setIfInBounds_toArray, List.set_cons_zero, List.set_cons_succ]
              refine wpAnyH_take (i := 4) (v := ?_) (by simp only [List.getElem?_toArray, List.getElem?_cons_succ, List.getElem?_cons_zero]; rfl) (by kernel_rfl) (by kernel_rfl) (by kernel_rfl) (by exact fun _ _ _ h => h) (Or.inl ⟨by rfl, ?_⟩) (by assumption) ?_
              rotate_left
              · intro w' hSw; obtain ⟨e0, e1, e2, e3, e4, e5, e6, e7⟩ := hSw
                go_simp; try with_reducible rfl
              try simp only [Act.put, List.setIfInBounds_toArray, List.set_cons_zero, List.set_cons_succ]
              refine wpAnyH_take (i := 5) (v := ?_) (by simp only [List.getElem?_toArray, List.getElem?_cons_succ, List.getElem?_cons_zero]; rfl) (by kernel_rfl) (by kernel_rfl) (by kernel_rfl) (by exact fun _ _ _ h => h) (Or.inl ⟨by rfl, ?_⟩) (by assumption) ?_
              rotate_left
              · intro w' hSw; obtain ⟨e0, e1, e2, e3, e4, e5, e6, e7⟩ := hSw
                go_simp; try with_reducible rfl
              try simp only [Act.put, List.setIfInBounds_toArray, List.set_cons_zero, List.set_cons_succ]
              refine wpAnyH_take (i := 6) (v := ?_) (by simp only [List.getElem?_toArray, List.getElem?_cons_succ, List.getElem?_cons_zero]; rfl) (by kernel_rfl) (by kernel_rfl) (by kernel_rfl) (by exact fun _ _ _ h => h) (Or.inl ⟨by rfl, ?_⟩) (by assumption) ?_
              rotate_left
              · intro w' hSw; obtain ⟨e0, e1, e2, e3, e4, e5, e6, e7⟩ := hSw
                go_simp; try with_reducible rfl
              try simp only [Act.put, List.setIfInBounds_toArray, List.set_cons_zero, List.set_cons_succ]
              refine wpAnyH_take (i := 7) (v := ?_) (by simp only [List.getElem?_toArray, List.getElem?_cons_succ, List.getElem?_cons_zero]; rfl) (by kernel_rfl) (by kernel_rfl) (by kernel_rfl) (by exact fun _ _ _ h => h) (Or.inl ⟨by rfl, ?_⟩) (by assumption) ?_
              rotate_left
              · intro w' hSw; obtain ⟨e0, e1, e2, e3, e4, e5, e6, e7⟩ := hSw
                go_simp; try with_reducible rfl
              try simp only [Act.put, List.setIfInBounds_toArray, List.set_cons_zero, List.set_cons_succ]
              refine wpAnyH_take (i := 8) (v := ?_) (by simp only [List.getElem?_toArray, List.getElem?_cons_succ, List.getElem?_cons_zero]; rfl) (by kernel_rfl) (by kernel_rfl) (by kernel_rfl) (by exact fun _ _ _ h => h) (Or.inl ⟨by rfl, ?_⟩) (by assumption) ?_
              rotate_left
              · intro w' hSw; obtain ⟨e0, e1, e2, e3, e4, e5, e6, e7⟩ := hSw
                go_simp; try with_reducible rfl
              try simp only [Act.put, List.setIfInBounds_toArray, List.set_cons_zero, List.set_cons_succ]
              refine wpAnyH_take (i := 9) (v := ?_) (by simp only [List.getElem?_toArray, List.getElem?_cons_succ, List.getElem?_cons_zero]; rfl) (by kernel_rfl) (by kernel_rfl) (by kernel_rfl) (by exact fun _ _ _ h => h) (Or.inl ⟨by rfl, ?_⟩) (by assumption) ?_
              rotate_left
              · intro w' hSw; obtain ⟨e0, e1, e2, e3, e4, e5, e6, e7⟩ := hSw
                go_simp; try with_reducible rfl
              try simp only [Act.put, List.setIfInBounds_toArray, List.set_cons_zero, List.set_cons_succ]
              refine wpAnyH_take (i := 10) (v := ?_) (by simp only [List.getElem?_toArray, List.getElem?_cons_succ, List.getElem?_cons_zero]; rfl) (by kernel_rfl) (by kernel_rfl) (by kernel_rfl) (by exact fun _ _ _ h => h) (Or.inl ⟨by rfl, ?_⟩) (by assumption) ?_
              rotate_left
              · intro w' hSw; obtain ⟨e0, e1, e2, e3, e4, e5, e6, e7⟩ := hSw
                go_simp; try with_reducible rfl
              try simp only [Act.put, List.setIfInBounds_toArray, List.set_cons_zero, List.set_cons_succ]
              refine wpAnyH_take (i := 11) (v := ?_) (by simp only [List.getElem?_toArray, List.getElem?_cons_succ, List.getElem?_cons_zero]; rfl) (by kernel_rfl) (by kernel_rfl) (by kernel_rfl) (by exact fun _ _ _ h => h) (Or.inl ⟨by rfl, ?_⟩) (by assumption) ?_
              rotate_left
              · intro w' hSw; obtain ⟨e0, e1, e2, e3, e4, e5, e6, e7⟩ := hSw
                go_simp; try with_reducible rfl
              try simp only [Act.put, List.setIfInBounds_toArray, List.set_cons_zero, List.set_cons_succ]
              refine wpAnyH_take (i := 12) (v := ?_) (by simp only [List.getElem?_toArray, List.getElem?_cons_succ, List.getElem?_cons_zero]; rfl) (by kernel_rfl) (by kernel_rfl) (by kernel_rfl) (by exact fun _ _ _ h => h) (Or.inl ⟨by rfl, ?_⟩) (by assumption) ?_
              rotate_left
              · intro w' hSw; obtain ⟨e0, e1, e2, e3, e4, e5, e6, e7⟩ := hSw
                go_simp; try with_reducible rfl
              try simp only [Act.put, List.setIfInBounds_toArray, List.set_cons_zero, List.set_cons_succ]
              refine wpAnyH_take (i := 13) (v := ?_) (by simp only [List.getElem?_toArray, List.getElem?_cons_succ, List.getElem?_cons_zero]; rfl) (by kernel_rfl) (by kernel_rfl) (by kernel_rfl) (by exact fun _ _ _ h => h) (Or.inl ⟨by rfl, ?_⟩) (by assumption) ?_
              rotate_left
              · intro w' hSw; obtain ⟨e0, e1, e2, e3, e4, e5, e6, e7⟩ := hSw
                go_simp; try with_reducible rfl
              try simp only [Act.put, List.setIfInBounds_toArray, List.set_cons_zero, List.set_cons_succ]
              refine wpAnyH_take (i := 14) (v := ?_) (by simp only [List.getElem?_toArray, List.getElem?_cons_succ, List.getElem?_cons_zero]; rfl) (by kernel_rfl) (by kernel_rfl) (by kernel_rfl) (by exact fun _ _ _ h => h) (Or.inl ⟨by rfl, ?_⟩) (by assumption) ?_
              rotate_left
              · intro w' hSw; obtain ⟨e0, e1, e2, e3, e4, e5, e6, e7⟩ := hSw
                go_simp; try with_reducible rfl
              try simp only [Act.put, List.setIfInBounds_toArray, List.set_cons_zero, List.set_cons_succ]
              refine wpAnyH_take (i := 15) (v := ?_) (by simp only [List.getElem?_toArray, List.getElem?_cons_succ, List.getElem?_cons_zero]; rfl) (by kernel_rfl) (by kernel_rfl) (by kernel_rfl) (by exact fun _ _ _ h => h) (Or.inl ⟨by rfl, ?_⟩) (by assumption) ?_
              rotate_left
              · intro w' hSw; obtain ⟨e0, e1, e2, e3, e4, e5, e6, e7⟩ := hSw
                go_simp; try with_reducible rfl
              try simp only [Act.put, List.setIfInBounds_toArray, List.set_cons_zero, List.set_cons_succ]
              refine wpAnyH_take (i := 16) (v := ?_) (by simp only [List.getElem?_toArray, List.getElem?_cons_succ, List.getElem?_cons_zero]; rfl) (by kernel_rfl) (by kernel_rfl) (by kernel_rfl) (by exact fun _ _ _ h => h) (Or.inl ⟨by rfl, ?_⟩) (by assumption) ?_
              rotate_left
              · intro w' hSw; obtain ⟨e0, e1, e2, e3, e4, e5, e6, e7⟩ := hSw
                go_simp; try with_reducible rfl
              try simp only [Act.put, List.setIfInBounds_toArray, List.set_cons_zero, List.set_cons_succ]
              refine wpAnyH_take (i := 17) (v := ?_) (by simp only [List.getElem?_toArray, List.getElem?_cons_succ, List.getElem?_cons_zero]; rfl) (by kernel_rfl) (by kernel_rfl) (by kernel_rfl) (by exact fun _ _ _ h => h) (Or.inl ⟨by rfl, ?_⟩) (by assumption) ?_
              rotate_left
              · intro w' hSw; obtain ⟨e0, e1, e2, e3, e4, e5, e6, e7⟩ := hSw
                go_simp; try with_reducible rfl
              try simp only [Act.put, List.setIfInBounds_toArray, List.set_cons_zero, List.set_cons_succ]
              refine wpAnyH_take (i := 18) (v := ?_) (by simp only [List.getElem?_toArray, List.getElem?_cons_succ, List.getElem?_cons_zero]; rfl) (by kernel_rfl) (by kernel_rfl) (by kernel_rfl) (by exact fun _ _ _ h => h) (Or.inl ⟨by rfl, ?_⟩) (by assumption) ?_
              rotate_left
              · intro w' hSw; obtain ⟨e0, e1, e2, e3, e4, e5, e6, e7⟩ := hSw
                go_simp; try with_reducible rfl
              try simp only [Act.put, List.setIfInBounds_toArray, List.set_cons_zero, List.set_cons_succ]
              refine wpAnyH_take (i := 19) (v := ?_) (by simp only [List.getElem?_toArray, List.getElem?_cons_succ, List.getElem?_cons_zero]; rfl) (by kernel_rfl) (by kernel_rfl) (by kernel_rfl) (by exact fun _ _ _ h => h) (Or.inl ⟨by rfl, ?_⟩) (by assumption) ?_
              rotate_left
              · intro w' hSw; obtain ⟨e0, e1, e2, e3, e4, e5, e6, e7⟩ := hSw
                go_simp; try with_reducible rfl
              try simp only [Act.put, List.setIfInBounds_toArray, List.set_cons_zero, List.set_cons_succ]
              refine wpAnyH_take (i := 20) (v := ?_) (by simp only [List.getElem?_toArray, List.getElem?_cons_succ, List.getElem?_cons_zero]; rfl) (by kernel_rfl) (by kernel_rfl) (by kernel_rfl) (by exact fun _ _ _ h => h) (Or.inl ⟨by rfl, ?_⟩) (by assumption) ?_
              rotate_left
              · intro w' hSw; obtain ⟨e0, e1, e2, e3, e4, e5, e6, e7⟩ := hSw
                go_simp; try with_reducible rfl
              try simp only [Act.put, List.setIfInBounds_toArray, List.set_cons_zero, List.set_cons_succ]
              refine wpAnyH_take (i := 21) (v := ?_) (by simp only [List.getElem?_toArray, List.getElem?_cons_succ, List.getElem?_cons_zero]; rfl) (by kernel_rfl) (by kernel_rfl) (by kernel_rfl) (by exact fun _ _ _ h => h) (Or.inl ⟨by rfl, ?_⟩) (by assumption) ?_
              rotate_left
              · intro w' hSw; obtain ⟨e0, e1, e2, e3, e4, e5, e6, e7⟩ := hSw
                go_simp; try with_reducible rfl
              try simp only [Act.put, List.setIfInBounds_toArray, List.set_cons_zero, List.set_cons_succ]
              refine wpAnyH_done (by kernel_rfl) ?_ _
              clear z0 z1 z2
              have HOne := Lib.hid hone
              clear hone
              clear HB HSv
              go_wp2_with fail
              go_loopw [49] (fun q wr2 => ∃ k : Nat, k ≤ bs[j + 1].length ∧ q = .int .i64 k ∧ Hid ((seenT t bs (j + 1) k).Nodup) ∧ Hid (Serv wr2 S (seenT t bs (j + 1) k)) ∧
                  wr2.cell? ⟨w.heap.size, 0, none⟩ = some (.slice c0 t.net.stops.length d0) ∧ wr2.cell? ⟨w.heap.size, 1, none⟩ = some (.slice c1 t.net.lines.length d1) ∧ wr2.cell? ⟨w.heap.size, 2, none⟩ = some (.slice c2 t.trips.length d2) ∧ wr2.cell? ⟨w.heap.size + 1, 0, none⟩ = some (.slice fa f.dead.length fc) ∧ wr2.cell? ⟨w.heap.size + 1, 1, none⟩ = some (.int .i64 f.turn) ∧ Hid (Below w.heap.size w wr2 ∧ S < wr2.heap.size))
                (fun q _ => bs[j + 1].length - (RowKit.intOf q).toNat)
              case atStart => exact ⟨0, Nat.zero_le _, rfl, HNd.out, HSv2.out, p0, p1, p2, q0, q1, HB2.out⟩
              case round =>
                clear p0 p1 p2 q0 q1 HB2 HSv2
                obtain ⟨k, hk, rfl, HNk, HSk, p0, p1, p2, q0, q1, HB⟩ := hrel
                have hSl := HB.out.2
                by_cases hkl : k < bs[j + 1].length
                · have hrw := HRow.out _ HB.out.1
                  obtain ⟨_, _, e9, _, _, C9⟩ := ints_open hrw
                  obtain ⟨zb, zo, e8, _, z⟩ := C9.out k hkl
                  simp at e9
                  rw [← e9.1] at e8
                  cases e8
                  clear e9 C9
                  have hk1 : (k : Int) < (bs[j + 1].length : Int) := by omega
                  have hfd := (HOne.out.1.2 k hkl hkl).1
                  have HPl := Lib.hid (fun W (h : Below w.heap.size w W) => tripPlace_any _ t.trips bs[j + 1][k] W ((tt_net (HAt.out.below rfl h)).2) (by have := hlen; omega) HG.out.1.asc')
                  have hpl := found_lt hfd
                  have hp12 : pl t bs[j + 1][k] < 12 := by omega
                  have hcell := HSk.out.1 (pl t bs[j + 1][k]) hp12
                  have HRw := Lib.hid (seen_row (t := t) (show j + 1 < bs.length from hlt) hkl)
                  have HNo2 : Hid (pl t bs[j + 1][k] ∈ seenT t bs (j + 1) k → blksB t f bs = false) := fun hm => blksB_no (fun g => by
                    have h1 := seen_nodup (t := t) (bs := bs) (i := j + 1) (k := k + 1) hlt g.2.1
                    rw [seen_row hlt hkl] at h1
                    exact (List.nodup_append.1 h1).2.2 _ hm _ (by simp) rfl)
                  have HNd2 : Hid (pl t bs[j + 1][k] ∉ seenT t bs (j + 1) k → (seenT t bs (j + 1) (k + 1)).Nodup) := fun hm => by
                    rw [seen_row hlt hkl]
                    exact List.nodup_append.2 ⟨HNk.out, by simp, fun a ha b hb e => by simp at hb; subst hb; subst e; exact hm ha⟩
                  have HPl2 : Hid (∀ W : World, Below w.heap.size w W → Calls Try.prog 69 #[.slice c2 t.trips.length d2, .int .i64 bs[j + 1][k]] W fun e w' => e = .returned (.tuple #[.int .i64 (pl t bs[j + 1][k] : Nat), .bool (foundB bs[j + 1][k] t.trips)]) ∧ Below W.heap.size W w') := HPl.out
                  clear HPl hrw hfd hpl HNk
                  generalize hid : bs[j + 1][k] = id at *
                  clear hid
                  generalize foundB id t.trips = fb at *
                  generalize hpp : pl t id = p at *
                  clear hpp
                  have hpi : ((p : Nat) : Int) < 12 := by omega
                  go_wp2_with fail
                  go_at_call 69
                  refine (HPl2.out _ HB.out.1).mono ?_
                  rintro e w3 ⟨rfl, hb3⟩
                  have HB3 : Hid (Below w.heap.size w w3 ∧ S < w3.heap.size) := ⟨HB.out.1.trans (hb3.mono HB.out.1.size), Nat.lt_of_lt_of_le hSl hb3.size⟩
                  have HSv3 := Lib.hid (HSk.out.keep hb3)
                  have p0 := bkeep hb3 p0
                  have p1 := bkeep hb3 p1
                  have p2 := bkeep hb3 p2
                  have q0 := bkeep hb3 q0
                  have q1 := bkeep hb3 q1
                  have hc3 := bkeep hb3 hcell
                  have hfz := HSv3.out.2
                  clear hb3 hcell HB HSk z
                  by_cases hm : p ∈ seenT t bs (j + 1) k
                  · have HF := Lib.hid (HNo2.out hm)
                    rw [decide_eq_true hm] at hc3
                    go_wp2_with fail
                    go_ret
                    exact ⟨by rw [HF.out]; rfl, HB3.out.1⟩
                  · have HN3 := Lib.hid (HNd2.out hm)
                    rw [decide_eq_false hm] at hc3
                    have hzS := HB3.out.1.size
                    have hS3 := HB3.out.2
                    clear hm HNo2 HNd2
                    go_wp2_with fail
                    go_roundw
                    case rel =>
                      refine ⟨k + 1, by omega, by go_num, HN3, ?_, (set1_cell (by dsimp only; omega)).trans p0, (set1_cell (by dsimp only; omega)).trans p1, (set1_cell (by dsimp only; omega)).trans p2, (set1_cell (by dsimp only; omega)).trans q0, (set1_cell (by dsimp only; omega)).trans q1, HB3.out.1.setCell (p := ⟨S, _, none⟩) (by dsimp only; omega) _, by simp [World.setCell]; omega⟩
                      show Serv _ _ _
                      rw [HRw.out]
                      exact HSv3.out.add hp12
                    case measure => simp [RowKit.intOf]; omega
                · have hkE : k = bs[j + 1].length := by omega
                  subst hkE
                  have HTo2 := Lib.hid (blksTo_succ hlt HTo.out HOne.out)
                  have HNx := HNk.out
                  have HSx := HSk.out
                  rw [seen_next hlt] at HNx HSx
                  have HNx := Lib.hid HNx
                  have HSx := Lib.hid HSx
                  clear HNk HSk
                  go_wp2_with fail
                  refine ⟨⟨j + 1 + 1, by omega, by go_num, HTo2, HNx, HSx, p0, p1, p2, q0, q1, HB⟩, ?_⟩
                  simp [RowKit.intOf]; omega
        · rw [blkB_no hok] at HIB
          have HFa : Hid (blksB t f bs = false) := HNoB.out (fun h => hok h.1)
          clear hok HHd
          go_upto_region 7 with fail
          refine wp_region_held_drew (S := (fun w' => w'.cell? ⟨w.heap.size, 0, none⟩ = some (.slice c0 t.net.stops.length d0) ∧ w'.cell? ⟨w.heap.size, 1, none⟩ = some (.slice c1 t.net.lines.length d1) ∧ w'.cell? ⟨w.heap.size, 2, none⟩ = some (.slice c2 t.trips.length d2) ∧ w'.cell? ⟨w.heap.size + 1, 0, none⟩ = some (.slice fa f.dead.length fc) ∧ w'.cell? ⟨w.heap.size + 1, 1, none⟩ = some (.int .i64 f.turn))) (by kernel_rfl) ?_ (fun hHeld => ?_)
          · exact ⟨p0, p1, p2, q0, q1⟩
          refine wpAnyH_take (i := 0) (v := ?_) (by simp only [List.getElem?_toArray, List.getElem?_cons_zero]; rfl) (by kernel_rfl) (by kernel_rfl) (by kernel_rfl) (by exact fun _ _ _ h => h) (Or.inl ⟨by rfl, ?_⟩) (by assumption) ?_
          rotate_left
          · intro w' hSw; obtain ⟨e0, e1, e2, e3, e4⟩ := hSw
            go_simp; try with_reducible rfl
          try simp only [Act.put, List.setIfInBounds_toArray, List.set_cons_zero, List.set_cons_succ]
          refine wpAnyH_take (i := 1) (v := ?_) (by simp only [List.getElem?_toArray, List.getElem?_cons_succ, List.getElem?_cons_zero]; rfl) (by kernel_rfl) (by kernel_rfl) (by kernel_rfl) (by exact fun _ _ _ h => h) (Or.inl ⟨by rfl, ?_⟩) (by assumption) ?_
          rotate_left
          · intro w' hSw; obtain ⟨e0, e1, e2, e3, e4⟩ := hSw
            go_simp; try with_reducible rfl
          try simp only [Act.put, List.setIfInBounds_toArray, List.set_cons_zero, List.set_cons_succ]
          refine wpAnyH_take (i := 2) (v := ?_) (by simp only [List.getElem?_toArray, List.getElem?_cons_succ, List.getElem?_cons_zero]; rfl) (by kernel_rfl) (by kernel_rfl) (by kernel_rfl) (by exact fun _ _ _ h => h) (Or.inl ⟨by rfl, ?_⟩) (by assumption) ?_
          rotate_left
          · intro w' hSw; obtain ⟨e0, e1, e2, e3, e4⟩ := hSw
            go_simp; try with_reducible rfl
          try simp only [Act.put, List.setIfInBounds_toArray, List.set_cons_zero, List.set_cons_succ]
          refine wpAnyH_ready (rs := [3]) (by kernel_rfl) (by simp) ?_
          refine AllReadyH.cons (by simp only [List.getElem?_toArray, List.getElem?_cons_succ, List.getElem?_cons_zero]; rfl) (fun K hK => ?_) AllReadyH.nil
          go_simp
          go_at_call 68
          refine (HIB.out _ HB.out.1.drew).mono ?_
          rintro e w2 ⟨rfl, hb⟩
          have rbw : Below wr.heap.size wr w2 := (Below.refl _ _).drew.trans hb
          have hS2 : w2.cell? ⟨w.heap.size, 0, none⟩ = some (.slice c0 t.net.stops.length d0) ∧ w2.cell? ⟨w.heap.size, 1, none⟩ = some (.slice c1 t.net.lines.length d1) ∧ w2.cell? ⟨w.heap.size, 2, none⟩ = some (.slice c2 t.trips.length d2) ∧ w2.cell? ⟨w.heap.size + 1, 0, none⟩ = some (.slice fa f.dead.length fc) ∧ w2.cell? ⟨w.heap.size + 1, 1, none⟩ = some (.int .i64 f.turn) := ⟨bkeep rbw p0, bkeep rbw p1, bkeep rbw p2, bkeep rbw q0, bkeep rbw q1⟩
          have HB2 : Hid (Below w.heap.size w w2 ∧ S < w2.heap.size) := ⟨HB.out.1.trans (rbw.mono HB.out.1.size), Nat.lt_of_lt_of_le HB.out.2 rbw.size⟩
          have HSv2 := Lib.hid (HSv.out.keep rbw)
          clear hb rbw
          go_wp2_with fail
          refine hK.out _ _ hS2 (fun hH3 => ?_)
          obtain ⟨p0, p1, p2, q0, q1⟩ := hS2
          clear hK K
          try simp only [Act.put, List.setIfInBounds_toArray, List.set_cons_zero, List.set_cons_succ]
          refine wpAnyH_take (i := 4) (v := ?_) (by simp only [List.getElem?_toArray, List.getElem?_cons_succ, List.getElem?_cons_zero]; rfl) (by kernel_rfl) (by kernel_rfl) (by kernel_rfl) (by exact fun _ _ _ h => h) (Or.inl ⟨by rfl, ?_⟩) (by assumption) ?_
          rotate_left
          · intro w' hSw; obtain ⟨e0, e1, e2, e3, e4⟩ := hSw
            go_simp; try with_reducible rfl
          try simp only [Act.put, List.setIfInBounds_toArray, List.set_cons_zero, List.set_cons_succ]
          refine wpAnyH_take (i := 5) (v := ?_) (by simp only [List.getElem?_toArray, List.getElem?_cons_succ, List.getElem?_cons_zero]; rfl) (by kernel_rfl) (by kernel_rfl) (by kernel_rfl) (by exact fun _ _ _ h => h) (Or.inl ⟨by rfl, ?_⟩) (by assumption) ?_
          rotate_left
          · intro w' hSw; obtain ⟨e0, e1, e2, e3, e4⟩ := hSw
            go_simp; try with_reducible rfl
          try simp only [Act.put, List.setIfInBounds_toArray, List.set_cons_zero, List.set_cons_succ]
          refine wpAnyH_take (i := 6) (v := undef) (by simp only [List.getElem?_toArray, List.getElem?_cons_succ, List.getElem?_cons_zero]; rfl) (by kernel_rfl) (by kernel_rfl) (by kernel_rfl) (by exact fun _ _ _ h => h) (Or.inr ⟨by rfl, rfl⟩) (by assumption) ?_
          try simp only [Act.put, List.setIfInBounds_toArray, List.set_cons_zero, List.set_cons_succ]
          refine wpAnyH_take (i := 7) (v := undef) (by simp only [List.getElem?_toArray, List.getElem?_cons_succ, List.getElem?_cons_zero]; rfl) (by kernel_rfl) (by kernel_rfl) (by kernel_rfl) (by exact fun _ _ _ h => h) (Or.inr ⟨by rfl, rfl⟩) (by assumption) ?_
          try simp only [Act.put, List.setIfInBounds_toArray, List.set_cons_zero, List.set_cons_succ]
          refine wpAnyH_take (i := 8) (v := undef) (by simp only [List.getElem?_toArray, List.getElem?_cons_succ, List.getElem?_cons_zero]; rfl) (by kernel_rfl) (by kernel_rfl) (by kernel_rfl) (by exact fun _ _ _ h => h) (Or.inr ⟨by rfl, rfl⟩) (by assumption) ?_
          try simp only [Act.put, List.setIfInBounds_toArray, List.set_cons_zero, List.set_cons_succ]
          refine wpAnyH_take (i := 9) (v := undef) (by simp only [List.getElem?_toArray, List.getElem?_cons_succ, List.getElem?_cons_zero]; rfl) (by kernel_rfl) (by kernel_rfl) (by kernel_rfl) (by exact fun _ _ _ h => h) (Or.inr ⟨by rfl, rfl⟩) (by assumption) ?_
          try simp only [Act.put, List.setIfInBounds_toArray, List.set_cons_zero, List.set_cons_succ]
          refine wpAnyH_take (i := 10) (v := undef) (by simp only [List.getElem?_toArray, List.getElem?_cons_succ, List.getElem?_cons_zero]; rfl) (by kernel_rfl) (by kernel_rfl) (by kernel_rfl) (by exact fun _ _ _ h => h) (Or.inr ⟨by rfl, rfl⟩) (by assumption) ?_
          try simp only [Act.put, List.setIfInBounds_toArray, List.set_cons_zero, List.set_cons_succ]
          refine wpAnyH_take (i := 11) (v := undef) (by simp only [List.getElem?_toArray, List.getElem?_cons_succ, List.getElem?_cons_zero]; rfl) (by kernel_rfl) (by kernel_rfl) (by kernel_rfl) (by exact fun _ _ _ h => h) (Or.inr ⟨by rfl, rfl⟩) (by assumption) ?_
          try simp only [Act.put, List.setIfInBounds_toArray, List.set_cons_zero, List.set_cons_succ]
          refine wpAnyH_take (i := 12) (v := undef) (by simp only [List.getElem?_toArray, List.getElem?_cons_succ, List.getElem?_cons_zero]; rfl) (by kernel_rfl) (by kernel_rfl) (by kernel_rfl) (by exact fun _ _ _ h => h) (Or.inr ⟨by rfl, rfl⟩) (by assumption) ?_
          try simp only [Act.put, List.setIfInBounds_toArray, List.set_cons_zero, List.set_cons_succ]
          refine wpAnyH_take (i := 13) (v := undef) (by simp only [List.getElem?_toArray, List.getElem?_cons_succ, List.getElem?_cons_zero]; rfl) (by kernel_rfl) (by kernel_rfl) (by kernel_rfl) (by exact fun _ _ _ h => h) (Or.inr ⟨by rfl, rfl⟩) (by assumption) ?_
          try simp only [Act.put, List.setIfInBounds_toArray, List.set_cons_zero, List.set_cons_succ]
          refine wpAnyH_take (i := 14) (v := undef) (by simp only [List.getElem?_toArray, List.getElem?_cons_succ, List.getElem?_cons_zero]; rfl) (by kernel_rfl) (by kernel_rfl) (by kernel_rfl) (by exact fun _ _ _ h => h) (Or.inr ⟨by rfl, rfl⟩) (by assumption) ?_
          try simp only [Act.put, List.setIfInBounds_toArray, List.set_cons_zero, List.set_cons_succ]
          refine wpAnyH_take (i := 15) (v := undef) (by simp only [List.getElem?_toArray, List.getElem?_cons_succ, List.getElem?_cons_zero]; rfl) (by kernel_rfl) (by kernel_rfl) (by kernel_rfl) (by exact fun _ _ _ h => h) (Or.inr ⟨by rfl, rfl⟩) (by assumption) ?_
          try simp only [Act.put, List.setIfInBounds_toArray, List.set_cons_zero, List.set_cons_succ]
          refine wpAnyH_take (i := 16) (v := undef) (by simp only [List.getElem?_toArray, List.getElem?_cons_succ, List.getElem?_cons_zero]; rfl) (by kernel_rfl) (by kernel_rfl) (by kernel_rfl) (by exact fun _ _ _ h => h) (Or.inr ⟨by rfl, rfl⟩) (by assumption) ?_
          try simp only [Act.put, List.setIfInBounds_toArray, List.set_cons_zero, List.set_cons_succ]
          refine wpAnyH_take (i := 17) (v := undef) (by simp only [List.getElem?_toArray, List.getElem?_cons_succ, List.getElem?_cons_zero]; rfl) (by kernel_rfl) (by kernel_rfl) (by kernel_rfl) (by exact fun _ _ _ h => h) (Or.inr ⟨by rfl, rfl⟩) (by assumption) ?_
          try simp only [Act.put, List.setIfInBounds_toArray, List.set_cons_zero, List.set_cons_succ]
          refine wpAnyH_take (i := 18) (v := undef) (by simp only [List.getElem?_toArray, List.getElem?_cons_succ, List.getElem?_cons_zero]; rfl) (by kernel_rfl) (by kernel_rfl) (by kernel_rfl) (by exact fun _ _ _ h => h) (Or.inr ⟨by rfl, rfl⟩) (by assumption) ?_
          try simp only [Act.put, List.setIfInBounds_toArray, List.set_cons_zero, List.set_cons_succ]
          refine wpAnyH_take (i := 19) (v := undef) (by simp only [List.getElem?_toArray, List.getElem?_cons_succ, List.getElem?_cons_zero]; rfl) (by kernel_rfl) (by kernel_rfl) (by kernel_rfl) (by exact fun _ _ _ h => h) (Or.inr ⟨by rfl, rfl⟩) (by assumption) ?_
          try simp only [Act.put, List.setIfInBounds_toArray, List.set_cons_zero, List.set_cons_succ]
          refine wpAnyH_take (i := 20) (v := undef) (by simp only [List.getElem?_toArray, List.getElem?_cons_succ, List.getElem?_cons_zero]; rfl) (by kernel_rfl) (by kernel_rfl) (by kernel_rfl) (by exact fun _ _ _ h => h) (Or.inr ⟨by rfl, rfl⟩) (by assumption) ?_
          try simp only [Act.put, List.setIfInBounds_toArray, List.set_cons_zero, List.set_cons_succ]
          refine wpAnyH_take (i := 21) (v := ?_) (by simp only [List.getElem?_toArray, List.getElem?_cons_succ, List.getElem?_cons_zero]; rfl) (by kernel_rfl) (by kernel_rfl) (by kernel_rfl) (by exact fun _ _ _ h => h) (Or.inl ⟨by rfl, ?_⟩) (by assumption) ?_
          rotate_left
          · intro w' hSw; obtain ⟨e0, e1, e2, e3, e4⟩ := hSw
            go_simp; try with_reducible rfl
          try simp only [Act.put, List.setIfInBounds_toArray, List.set_cons_zero, List.set_cons_succ]
          refine wpAnyH_done (by kernel_rfl) ?_ _
          clear p0 p1 p2 q0 q1
          go_wp2_with fail
          go_ret
          exact ⟨by rw [HFa.out]; rfl, HB2.out.1⟩
      · obtain rfl : i = bs.length := by omega
        have hsl := HSv.out.1
        have HL : Hid (∀ x ∈ seenT t bs bs.length 0, x < t.trips.length) := seen_lt HTo.out (Nat.le_refl _)
        have HC := Lib.hid (containsFalse_any S t.trips.length 12 (fun p => decide (p ∈ seenT t bs bs.length 0)) (!blksB t f bs) (by
          have hfull := full_iff (L := seenT t bs bs.length 0) (n := t.trips.length) HNd.out HL.out
          constructor
          · intro hnb
            by_cases hall : ∀ p, p < t.trips.length → p ∈ seenT t bs bs.length 0
            · have := hfull.2 hall
              have hN := HNd.out
              rw [seen_end] at this hN
              rw [blksB_yes ⟨HTo.out, hN, this⟩] at hnb
              cases hnb
            · have ⟨p, hp⟩ := Classical.not_forall.1 hall
              have ⟨hp1, hp2⟩ := Classical.not_imp.1 hp
              exact ⟨p, hp1, decide_eq_false hp2⟩
          · rintro ⟨p, hp, hf⟩
            have hf := of_decide_eq_false hf
            rw [blksB_no (fun g => by
              have h3 := g.2.2
              rw [← seen_end] at h3
              exact hf (hfull.1 h3 p hp))]
            rfl) wr hlen (fun p hp => hsl p (by omega)))
        have hl12 : (t.trips.length : Int) ≤ 12 := by omega
        clear hsl
        go_wp2_with fail
        go_at_call 70
        refine HC.out.mono ?_
        rintro e w2 ⟨rfl, rfl⟩
        go_wp2_with fail
        go_ret
        exact ⟨ret_bool (by simp), HB.out.1⟩
end Go.Proofs.Ytehpeifaknbcnaa

/-
  JOINED TEXTS, each under its own namespace line: Contains, BlockOf.
-/
import Derived.Test.YtehpeifaknbcnaaRows
import Derived.Test.YtehpeifaknbcnaaInts
import Derived.Test.YtehpeifaknbcnaaMk01
import Derived.LoopTactic
import Derived.WalkLawsBesides
import Derived.Test.YtehpeifaknbcnaaValidBlocksS
namespace Go.Proofs.Ytehpeifaknbcnaa
open Go.RowKit
set_option linter.unusedVariables false

theorem indexInt_any (v : Value) (xs : List Int) (x : Int) (w : World) (hr : RowAt w v (ints xs)) :
    Calls Try.prog 85 #[v, .int .i64 x] w fun e w' => e = .returned (.int .i64 (fstIdx x xs)) ∧ w = w' := by
  obtain ⟨a, c, rfl, hc, hm, HC⟩ := ints_open hr
  clear hr
  go_enter Try.func85, Try.ntmps85
  go_wp2
  go_loop [8] (fun i => ∃ k : Nat, k ≤ xs.length ∧ i = .int .i64 k ∧ Hid (x ∉ xs.take k)) (fun i => xs.length - (RowKit.intOf i).toNat)
  case atStart => exact ⟨0, Nat.zero_le _, rfl, by show _ ∉ _; simp⟩
  case round =>
    obtain ⟨k, hk, rfl, HN⟩ := hrel
    by_cases hlt : k < xs.length
    · obtain ⟨b, off, rfl, _, hcx⟩ := HC.out k hlt
      by_cases he : xs[k] = x
      · have HF := Lib.hid (fstIdx_hit k hlt he HN.out)
        have hb : (x == xs[k]) = true := by simp [he]
        clear he
        generalize xs[k] = y at *
        go_wp2
        go_ret
        exact ⟨ret_int HF.out.symm, rfl⟩
      · have HN2 := Lib.hid (not_take_succ hlt HN.out he)
        have hb : (x == xs[k]) = false := by simp; exact fun e => he e.symm
        clear he
        generalize xs[k] = y at *
        go_wp2
        go_round
        case rel => exact ⟨k + 1, by omega, by go_num, HN2⟩
        case measure => simp [RowKit.intOf]; omega
    · have HF := Lib.hid (fstIdx_none (not_take_all (by omega) HN.out))
      go_wp2
      go_ret
      exact ⟨ret_int HF.out.symm, rfl⟩
end Go.Proofs.Ytehpeifaknbcnaa

namespace Go.Proofs.Ytehpeifaknbcnaa
open Go.RowKit
set_option linter.unusedVariables false
set_option linter.unusedSimpArgs false

def plF (id : Int) : Nat → List (List Int) → Int × Int
  | _, [] => (-1, -1)
  | i, b :: bs => if id ∈ b then ((i : Int), fstIdx id b) else plF id (i + 1) bs
theorem plF_none (id : Int) : ∀ (bs : List (List Int)) (i : Nat), (∀ j (h : j < bs.length), id ∉ bs[j]) → plF id i bs = (-1, -1)
  | [], _, _ => rfl
  | b :: bs, i, h => by
    have h0 : id ∉ b := h 0 (by simp)
    unfold plF
    rw [if_neg h0]
    exact plF_none id bs (i + 1) (fun j hj => h (j + 1) (by simpa using hj))
theorem plF_hit (id : Int) : ∀ (bs : List (List Int)) (i m : Nat) (hm : m < bs.length), (∀ j (h : j < bs.length), j < m → id ∉ bs[j]) → id ∈ bs[m] → plF id i bs = (((i + m : Nat) : Int), fstIdx id bs[m])
  | [], _, _, hm, _, _ => by simp at hm
  | b :: bs, i, 0, hm, _, hin => by
    unfold plF
    rw [if_pos (by simpa using hin)]
    simp
  | b :: bs, i, m + 1, hm, h, hin => by
    have h0 : id ∉ b := h 0 (by simp) (by omega)
    unfold plF
    rw [if_neg h0, plF_hit id bs (i + 1) m (by simpa using hm) (fun j hj hjm => h (j + 1) (by simpa using hj) (by omega)) (by simpa using hin)]
    have e : i + 1 + m = i + (m + 1) := by omega
    rw [e]
    rfl

set_option maxRecDepth 100000 in
set_option maxHeartbeats 2000000 in
theorem l11Place_any (bv : Value) (bs : List (List Int)) (id : Int) (w : World) (hb : GrpsAt w bv bs) (hbs : GrpsSmall bs) :
    Calls Try.prog 83 #[bv, .int .i64 id] w fun e w' => e = .returned (.tuple #[.int .i64 (plF id 0 bs).1, .int .i64 (plF id 0 bs).2]) ∧ Below w.heap.size w w' := by
  have HGr := Lib.hid hb
  have hsz := hbs.1
  have HSm : Hid (∀ i (h : i < bs.length), bs[i].length ≤ 1048576) := fun i h => by
    have e1 := preL_succ h
    have e2 := preL_le (xss := bs) (i := i + 1) (by omega)
    have := hbs.2
    omega
  obtain ⟨ba, bc, rfl⟩ := IntSS_open hb
  obtain ⟨A, hA⟩ : ∃ A, plF id 0 bs = A := ⟨_, rfl⟩
  have HA := Lib.hid hA
  rw [hA]
  clear hb hbs hA
  go_enter Try.func83, Try.ntmps83
  go_wp2_with fail
  go_loopw [6] (fun q wr => ∃ i : Nat, i ≤ bs.length ∧ q = .int .i64 i ∧ Hid (∀ j (h : j < bs.length), j < i → id ∉ bs[j]) ∧ Hid (Below w.heap.size w wr))
    (fun q _ => bs.length - (RowKit.intOf q).toNat)
  case atStart => exact ⟨0, Nat.zero_le _, rfl, (fun j h hj => by omega), Below.refl _ _⟩
  case round =>
    obtain ⟨i, hi, rfl, HNo, HB⟩ := hrel
    by_cases hlt : i < bs.length
    · obtain ⟨vb, vo, rfl, hC⟩ := grp_cells HGr.out (by omega)
      have hi1 : (i : Int) < (bs.length : Int) := by omega
      have hrs := HSm.out i hlt
      have hYg : ∃ pb pc, (∀ W : World, Below w.heap.size w W → W.cell? ⟨vb, vo + i, none⟩ = some (.slice pb bs[i].length pc)) ∧ ∀ W : World, Below w.heap.size w W → ∀ k (hk : k < bs[i].length), ∃ b o, pb = some ⟨b, o, none⟩ ∧ W.cell? ⟨b, o + k, none⟩ = some (.int .i64 bs[i][k]) := by
        by_cases h0 : bs[i].length = 0
        · obtain ⟨ra, rc, hy⟩ := (hC i hlt).1 h0
          exact ⟨ra, rc, fun W hW => by rw [hy W hW, h0], fun W hW k hk => by omega⟩
        · obtain ⟨pb, po, pc, hy⟩ := (hC i hlt).2 (by omega)
          exact ⟨_, pc, fun W hW => (hy W hW).1, fun W hW k hk => ⟨pb, po, rfl, (hy W hW).2 k hk⟩⟩
      obtain ⟨pb, pc, hY, hZ⟩ := hYg
      have HY := Lib.hid hY
      have HZ := Lib.hid hZ
      clear hC hY hZ
      go_wp2_with fail
      go_loopw [7] (fun q wr2 => ∃ k : Nat, k ≤ bs[i].length ∧ q = .int .i64 k ∧ Hid (id ∉ bs[i].take k) ∧ Hid (Below w.heap.size w wr2))
        (fun q _ => bs[i].length - (RowKit.intOf q).toNat)
      case atStart => exact ⟨0, Nat.zero_le _, rfl, (by show id ∉ _; simp), HB⟩
      case round =>
        clear HB
        obtain ⟨k, hk, rfl, HNk, HB⟩ := hrel
        have y := HY.out _ HB.out
        by_cases hkl : k < bs[i].length
        · obtain ⟨zb, zo, rfl, z⟩ := HZ.out _ HB.out k hkl
          have hk1 : (k : Int) < (bs[i].length : Int) := by omega
          by_cases he : bs[i][k] = id
          · have HP : Hid (A = ((i : Int), (k : Int))) := by
              show _ = _
              rw [← HA.out, plF_hit id bs 0 i hlt HNo.out (by rw [← he]; exact List.getElem_mem hkl), fstIdx_hit k hkl he HNk.out]
              simp
            have hbe : (bs[i][k] == id) = true := by simp [he]
            clear he HNo
            generalize bs[i][k] = x at *
            go_wp2_with fail
            go_ret2
            exact ⟨by rw [HP.out]; rfl, HB.out⟩
          · have HN2 : Hid (id ∉ bs[i].take (k + 1)) := not_take_succ hkl HNk.out he
            have hbe : (bs[i][k] == id) = false := by simp [he]
            clear he HNk
            generalize bs[i][k] = x at *
            go_wp2_with fail
            go_roundw
            case rel => exact ⟨k + 1, by omega, by go_num, HN2, HB⟩
            case measure => simp [RowKit.intOf]; omega
        · have HNi : Hid (∀ j (h : j < bs.length), j < i + 1 → id ∉ bs[j]) := fun j h hj => by
            by_cases e : j = i
            · subst e; exact not_take_all (k := k) (by omega) HNk.out
            · exact HNo.out j h (by omega)
          go_wp2_with fail
          refine ⟨⟨i + 1, by omega, by go_num, HNi, HB⟩, ?_⟩
          simp [RowKit.intOf]; omega
    · obtain rfl : i = bs.length := by omega
      have HP : Hid (A = (-1, -1)) := by show _ = _; rw [← HA.out]; exact plF_none id bs 0 (fun j h => HNo.out j h h)
      go_wp2_with fail
      go_ret2
      exact ⟨by rw [HP.out]; rfl, HB.out⟩

theorem foundAtB_any (k : Int) (w : World) : Calls Try.prog 84 #[.int .i64 k] w fun e w' => e = .returned (.tuple #[.int .i64 (if k < 0 then 0 else k), .bool (!decide (k < 0))]) ∧ w = w' := by
  by_cases h : k < 0
  · rw [if_pos h, decide_eq_true h]
    go_enter Try.func84, Try.ntmps84
    go_wp2
    go_ret2
    exact ⟨rfl, rfl⟩
  · rw [if_neg h, decide_eq_false h]
    go_enter Try.func84, Try.ntmps84
    go_wp2
    go_ret2
    exact ⟨rfl, rfl⟩

noncomputable def boOk (t : TTD) (f : FleetD) (bs : List (List Int)) (id : Int) : Bool := (askedB t f && blksB t f bs) && decide (0 ≤ (plF id 0 bs).1)
noncomputable def boA (t : TTD) (f : FleetD) (bs : List (List Int)) (id : Int) : Int := if boOk t f bs id = true then (plF id 0 bs).1 else 0
noncomputable def boB (t : TTD) (f : FleetD) (bs : List (List Int)) (id : Int) : Int := if boOk t f bs id = true then (plF id 0 bs).2 else 0

set_option maxRecDepth 100000 in
set_option maxHeartbeats 4000000 in
theorem implBlockOf_any (tv fv bv : Value) (t : TTD) (f : FleetD) (bs : List (List Int)) (id : Int) (w : World) (hr : TTAt w tv t) (hf : TTFits t) (hg : FleetAt w fv f) (hs : GrpsSmall f.dead) (hb : GrpsAt w bv bs) (hbs : GrpsSmall bs) :
    Calls Try.prog 42 #[tv, fv, bv, .int .i64 id] w fun e w' => e = .returned (.tuple #[.int .i64 (boA t f bs id), .int .i64 (boB t f bs id), .bool (boOk t f bs id)]) ∧ Below w.heap.size w w' := by
  have HV := Lib.hid (fun W (h : Below w.heap.size w W) => implBlocks_any tv fv bv t f bs W (hr.below rfl h) hf (hg.below rfl h) hs (hb.below rfl h) hbs)
  have hsz := hbs.1
  have hbG := hb
  obtain ⟨vs, g1, g2, g3⟩ := hb
  have HVs := Lib.hid g1
  have HEa := Lib.hid g3
  obtain ⟨c0, d0, c1, d1, c2, d2, rfl, -, -⟩ := tt_open hr
  obtain ⟨fa, fc, rfl, -⟩ := fleet_open hg
  obtain ⟨ba, bc, rfl⟩ := IntSS_open hbG
  clear hr hg hf hs hbs g1 g3 hbG
  unfold boA boB boOk
  obtain ⟨A, hA⟩ : ∃ A, plF id 0 bs = A := ⟨_, rfl⟩
  have HA := Lib.hid hA
  rw [hA]
  clear hA
  generalize (askedB t f && blksB t f bs) = b1 at *
  cases b1
  · simp only [Bool.false_and, Bool.false_eq_true, if_false]
    go_enter Try.func42, Try.ntmps42
    go_wp2_with fail
    go_at_call 27
    refine (HV.out _ (((Below.refl _ _).alloc (Nat.le_refl _) _).alloc (by simp) _)).mono ?_
    rintro e w1 ⟨rfl, hb1⟩
    have HB1 : Hid (Below w.heap.size w w1) := (((Below.refl _ _).alloc (Nat.le_refl _) _).alloc (by simp) _).trans (hb1.mono (by simp; omega))
    clear hb1
    go_wp2_with fail
    go_ret3
    exact ⟨rfl, HB1.out⟩
  · simp only [Bool.true_and, decide_eq_true_eq]
    obtain ⟨r0, hr0⟩ : ∃ r0, (if 0 ≤ A.1 then A.1 else 0) = r0 := ⟨_, rfl⟩
    obtain ⟨r1, hr1⟩ : ∃ r1, (if 0 ≤ A.1 then A.2 else 0) = r1 := ⟨_, rfl⟩
    obtain ⟨r2, hr2⟩ : ∃ r2, decide (0 ≤ A.1) = r2 := ⟨_, rfl⟩
    have HR : Hid ((if 0 ≤ A.1 then A.1 else 0) = r0 ∧ (if 0 ≤ A.1 then A.2 else 0) = r1 ∧ decide (0 ≤ A.1) = r2) := ⟨hr0, hr1, hr2⟩
    rw [hr0, hr1, hr2]
    clear hr0 hr1 hr2
    go_enter Try.func42, Try.ntmps42
    go_wp2_with fail
    go_at_call 27
    refine (HV.out _ (((Below.refl _ _).alloc (Nat.le_refl _) _).alloc (by simp) _)).mono ?_
    rintro e w1 ⟨rfl, hb1⟩
    have HB1 : Hid (Below w.heap.size w w1) := (((Below.refl _ _).alloc (Nat.le_refl _) _).alloc (by simp) _).trans (hb1.mono (by simp; omega))
    clear hb1
    go_wp2_with fail
    go_loopw [22] (fun q wr => ∃ i : Nat, i ≤ bs.length ∧ q = .int .i64 i ∧ Hid (∀ j (h : j < bs.length), j < i → id ∉ bs[j]) ∧ Hid (Below w.heap.size w wr))
      (fun q _ => bs.length - (RowKit.intOf q).toNat)
    case atStart => exact ⟨0, Nat.zero_le _, rfl, (fun j h hj => by omega), HB1.out⟩
    case round =>
      clear HB1
      obtain ⟨i, hi, rfl, HNo, HB⟩ := hrel
      by_cases hlt : i < bs.length
      · obtain ⟨vb, vo, rfl, hvb, y⟩ := rowAt_cell (RowAt.below HVs.out rfl HB.out) i (by omega)
        have hi1 : (i : Int) < (bs.length : Int) := by omega
        obtain ⟨ra, rc, hvi⟩ := IntS_open (HEa.out i hlt (by omega))
        have HI := Lib.hid (fun W (h : Below w.heap.size w W) => indexInt_any _ bs[i] id W ((HEa.out i hlt (by omega)).below rfl h))
        rw [hvi] at y HI
        clear hvi
        by_cases hin : id ∈ bs[i]
        · obtain ⟨k, hk, hkl, hkx, hkn⟩ := fstIdx_get id bs[i] hin
          have HP : Hid (A = ((i : Int), (k : Int))) := by
            show _ = _
            rw [← HA.out, plF_hit id bs 0 i hlt HNo.out hin, hk]
            simp
          rw [hk] at HI
          have HFA := Lib.hid (fun W => foundAtB_any (k : Int) W)
          rw [if_neg (by omega), decide_eq_false (by omega)] at HFA
          have HRR : Hid (r0 = (i : Int) ∧ r1 = (k : Int) ∧ r2 = true) := by
            have h1 := HR.out
            rw [HP.out] at h1
            rw [if_pos (by simp), if_pos (by simp), decide_eq_true (by simp)] at h1
            exact ⟨h1.1.symm, h1.2.1.symm, h1.2.2.symm⟩
          clear hin hk hkl hkx hkn HNo HP
          go_wp2_with fail
          go_at_call 85
          refine (HI.out _ HB.out).mono ?_
          rintro e w2 ⟨rfl, rfl⟩
          go_wp2_with fail
          go_at_call 84
          refine (HFA.out _).mono ?_
          rintro e w2 ⟨rfl, rfl⟩
          go_wp2_with fail
          go_ret3
          exact ⟨by rw [HRR.out.1, HRR.out.2.1, HRR.out.2.2]; rfl, HB.out⟩
        · have HNi : Hid (∀ j (h : j < bs.length), j < i + 1 → id ∉ bs[j]) := fun j h hj => by
            by_cases e : j = i
            · subst e; exact hin
            · exact HNo.out j h (by omega)
          rw [fstIdx_none hin] at HI
          have HFA := Lib.hid (fun W => foundAtB_any (-1) W)
          rw [if_pos (by omega), decide_eq_true (by omega)] at HFA
          clear hin HNo
          go_wp2_with fail
          go_at_call 85
          refine (HI.out _ HB.out).mono ?_
          rintro e w2 ⟨rfl, rfl⟩
          go_wp2_with fail
          go_at_call 84
          refine (HFA.out _).mono ?_
          rintro e w2 ⟨rfl, rfl⟩
          go_wp2_with fail
          go_roundw
          case rel => exact ⟨i + 1, by omega, by go_num, HNi, HB⟩
          case measure => simp [RowKit.intOf]; omega
      · obtain rfl : i = bs.length := by omega
        have HP : Hid (A = (-1, -1)) := by show _ = _; rw [← HA.out]; exact plF_none id bs 0 (fun j h => HNo.out j h h)
        have HRR : Hid (r0 = 0 ∧ r1 = 0 ∧ r2 = false) := by
          have h1 := HR.out
          rw [HP.out] at h1
          exact ⟨by simpa using h1.1.symm, by simpa using h1.2.1.symm, by simpa using h1.2.2.symm⟩
        go_wp2_with fail
        go_ret3
        exact ⟨by rw [HRR.out.1, HRR.out.2.1, HRR.out.2.2]; rfl, HB.out⟩

end Go.Proofs.Ytehpeifaknbcnaa

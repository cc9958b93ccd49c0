import Derived.Test.YtemejcbilhcebaaCalGood
namespace Go.Proofs.Ytemejcbilhcebaa
open Go.RowKit
set_option linter.unusedVariables false

theorem exList1_any (bc br : Nat) (wd d : Int) (r : Bool) (w : World) (hc : w.cell? ⟨bc, 2, none⟩ = some (.int .i64 wd)) (hb : w.cell? ⟨br, 0, none⟩ = some (.bool r)) (g0 : 0 ≤ wd) (g1 : wd ≤ 127) (h0 : 0 ≤ d) (h1 : d ≤ 3650) :
    Calls Try.prog 107 #[.int .i64 d, .pointer (some ⟨bc, 0, none⟩), .pointer (some ⟨br, 0, none⟩)] w fun e w' => e = .returned (.bool (wdB wd d != r)) ∧ ∃ m, w' = w.drewN m := by
  have HW := Lib.hid (fun W => hasWeekday_any wd d W g0 g1 h0 h1)
  go_enter Try.func107, Try.ntmps107
  go_wp2_with fail
  go_quiet ((go_at_call 70; exact quietL (HW.out _)))
  go_wp2_with fail
  go_ret
  exact ⟨rfl, _, rfl⟩

def FindR (p : Int → Bool) (xs : List Int) (e : Ending) : Prop := ∃ r : Int, e = .returned (.int .i64 r) ∧ ((xs.any p = true ∧ 0 ≤ r) ∨ (xs.any p = false ∧ r = -1))
theorem any_no {p : Int → Bool} {xs : List Int} (h : ∀ j (hj : j < xs.length), p xs[j] = false) : xs.any p = false := by
  rw [List.any_eq_false]
  intro x hx
  obtain ⟨j, hj, rfl⟩ := List.mem_iff_getElem.1 hx
  simp [h j hj]
theorem any_yes {p : Int → Bool} {xs : List Int} (k : Nat) (hk : k < xs.length) (h : p xs[k] = true) : xs.any p = true := List.any_eq_true.2 ⟨_, List.getElem_mem hk, h⟩

theorem indexEx_any (v : Value) (xs : List Int) (bc br : Nat) (wd : Int) (r : Bool) (w : World) (hr : RowAt w v (ints xs)) (hc : w.cell? ⟨bc, 2, none⟩ = some (.int .i64 wd)) (hb : w.cell? ⟨br, 0, none⟩ = some (.bool r)) (g0 : 0 ≤ wd) (g1 : wd ≤ 127)
    (hx : ∀ x ∈ xs, 0 ≤ x ∧ x ≤ 3650) :
    Calls Try.prog 117 #[v, .func (.func 107) #[] #[.pointer (some ⟨bc, 0, none⟩), .pointer (some ⟨br, 0, none⟩)]] w fun e w' => FindR (fun d => wdB wd d != r) xs e ∧ Below w.heap.size w w' := by
  have HP := Lib.hid (fun d (h0 : 0 ≤ d) (h1 : d ≤ 3650) m => exList1_any bc br wd d r (w.drewN m) hc hb g0 g1 h0 h1)
  have HX := Lib.hid hx
  obtain ⟨a, c, rfl, hca, hcb, HC⟩ := ints_open hr
  clear hr hx hc hb
  go_enter Try.func117, Try.ntmps117
  go_wp2_with fail
  go_loopw [8] (fun i wr => ∃ k : Nat, k ≤ xs.length ∧ i = .int .i64 k ∧ Hid (∀ j (hj : j < xs.length), j < k → (wdB wd xs[j] != r) = false) ∧ ∃ m, wr = w.drewN m) (fun i _ => xs.length - (RowKit.intOf i).toNat)
  case atStart => exact ⟨0, Nat.zero_le _, rfl, fun j hj h => by omega, 0, rfl⟩
  case round =>
    obtain ⟨k, hk, rfl, HN, m, rfl⟩ := hrel
    by_cases hlt : k < xs.length
    · obtain ⟨b, off, rfl, _, hcx⟩ := HC.out k hlt
      have hk1 : (k : Int) < (xs.length : Int) := by omega
      have hb := HX.out _ (List.getElem_mem hlt)
      have HQ := Lib.hid (HP.out xs[k] hb.1 hb.2)
      clear hb
      by_cases hp : (wdB wd xs[k] != r) = true
      · have HF : Hid (xs.any (fun d => wdB wd d != r) = true) := any_yes k hlt hp
        rw [hp] at HQ
        clear hp
        generalize xs[k] = y at HQ hcx
        go_wp2_with fail
        go_at_call 107
        refine (HQ.out _).mono ?_
        rintro e w' ⟨rfl, q, rfl⟩
        go_wp2_with fail
        go_ret
        exact ⟨⟨_, rfl, .inl ⟨HF.out, by omega⟩⟩, Dr.below ⟨_, rfl⟩⟩
      · have hp' : (wdB wd xs[k] != r) = false := by simpa using hp
        have HN2 : Hid (∀ j (hj : j < xs.length), j < k + 1 → (wdB wd xs[j] != r) = false) := fun j hj hjk => by
          by_cases e : j = k
          · subst e; exact hp'
          · exact HN.out j hj (by omega)
        rw [hp'] at HQ
        clear hp hp' HN
        generalize xs[k] = y at HQ hcx
        go_wp2_with fail
        go_at_call 107
        refine (HQ.out _).mono ?_
        rintro e w' ⟨rfl, q, rfl⟩
        go_wp2_with fail
        go_roundw
        case rel => exact ⟨k + 1, by omega, by go_num, HN2, _, rfl⟩
        case measure => simp [RowKit.intOf]; omega
    · have HF : Hid (xs.any (fun d => wdB wd d != r) = false) := any_no (fun j hj => HN.out j hj (by omega))
      go_wp2_with fail
      go_ret
      exact ⟨⟨_, rfl, .inr ⟨HF.out, rfl⟩⟩, Dr.below ⟨_, rfl⟩⟩

theorem containsEx_any (v : Value) (xs : List Int) (bc br : Nat) (wd : Int) (r : Bool) (w : World) (hr : RowAt w v (ints xs)) (hc : w.cell? ⟨bc, 2, none⟩ = some (.int .i64 wd)) (hb : w.cell? ⟨br, 0, none⟩ = some (.bool r)) (g0 : 0 ≤ wd) (g1 : wd ≤ 127)
    (hx : ∀ x ∈ xs, 0 ≤ x ∧ x ≤ 3650) :
    Calls Try.prog 106 #[v, .func (.func 107) #[] #[.pointer (some ⟨bc, 0, none⟩), .pointer (some ⟨br, 0, none⟩)]] w fun e w' => e = .returned (.bool (xs.any (fun d => wdB wd d != r))) ∧ Below w.heap.size w w' := by
  have HI := Lib.hid (indexEx_any v xs bc br wd r w hr hc hb g0 g1 hx)
  obtain ⟨a, c, rfl, _⟩ := ints_open hr
  clear hr hc hb hx
  go_enter Try.func106, Try.ntmps106
  go_wp2_with fail
  go_at_call 117
  refine HI.out.mono ?_
  rintro e w1 ⟨⟨z, rfl, hz⟩, hb1⟩
  rcases hz with ⟨hq, hz⟩ | ⟨hq, rfl⟩
  · have HQ := Lib.hid hq
    clear hq
    go_wp2_with fail
    go_ret
    exact ⟨ret_bool (by rw [HQ.out]), hb1⟩
  · have HQ := Lib.hid hq
    clear hq
    go_wp2_with fail
    go_ret
    exact ⟨ret_bool (by rw [HQ.out]), hb1⟩

def ExOk (c : CalD) (xs : List Int) (r : Bool) : Prop := xs.length ≤ 8 ∧ Rise xs c.frm c.too ∧ ∀ d ∈ xs, wdB c.wd d = r
instance (c : CalD) (xs : List Int) (r : Bool) : Decidable (ExOk c xs r) := by unfold ExOk; infer_instance
def exB (c : CalD) (xs : List Int) (r : Bool) : Bool := decide (ExOk c xs r)
theorem exB_yes {c : CalD} {xs : List Int} {r : Bool} (h : ExOk c xs r) : exB c xs r = true := decide_eq_true h
theorem exB_no {c : CalD} {xs : List Int} {r : Bool} (h : ¬ ExOk c xs r) : exB c xs r = false := decide_eq_false h

theorem isExceptionList_any (v lv : Value) (c : CalD) (xs : List Int) (r : Bool) (w : World) (hr : CalAt w v c) (hl : RowAt w lv (ints xs)) (hn : CalNum c) :
    Calls Try.prog 77 #[v, lv, .bool r] w fun e w' => e = .returned (.bool (exB c xs r)) ∧ Below w.heap.size w w' := by
  have HL := Lib.hid (fun W (h : Below w.heap.size w W) => hl.below rfl h)
  obtain ⟨av, rv, rfl, ha, hrm⟩ := hr
  obtain ⟨a, ca, rfl, _⟩ := ints_open ha
  obtain ⟨b, cb, rfl, _⟩ := ints_open hrm
  obtain ⟨x, cx, rfl, hcx, hcx', _⟩ := ints_open hl
  clear ha hrm hl
  have HNum := Lib.hid hn
  obtain ⟨n1, n2, n3, n4, n5⟩ := hn
  by_cases h8 : xs.length ≤ 8
  rotate_left
  · have HN : Hid (exB c xs r = false) := exB_no fun h => h8 h.1
    have h8' : 8 < (xs.length : Int) := by omega
    clear h8
    go_enter Try.func77, Try.ntmps77
    go_wp2_with fail
    go_ret
    exact ⟨ret_bool HN.out.symm, ((Below.refl _ _).alloc (Nat.le_refl _) _).alloc (by simp) _⟩
  have h8' : (xs.length : Int) ≤ 8 := by omega
  have HB0 : Hid (Below w.heap.size w ((w.alloc (.cells #[.int .i64 c.frm, .int .i64 c.too, .int .i64 c.wd, .slice a c.added.length ca, .slice b c.removed.length cb] 46)).alloc (.cells #[.bool r] 4))) := ((Below.refl _ _).alloc (Nat.le_refl _) _).alloc (by simp) _
  by_cases hri : Rise xs c.frm c.too
  rotate_left
  · have HN : Hid (exB c xs r = false) := exB_no fun h => hri h.2.1
    have HR := Lib.hid (riseB_no hri)
    clear hri
    go_enter Try.func77, Try.ntmps77
    go_wp2_with fail
    go_at_call 67
    refine (areDaysWithin_any _ xs c.frm c.too _ (HL.out _ HB0.out)).mono ?_
    rintro e w' ⟨rfl, rfl⟩
    rw [HR.out]
    go_wp2_with fail
    go_ret
    exact ⟨ret_bool HN.out.symm, HB0.out⟩
  have HR := Lib.hid (riseB_yes hri)
  have HRi := Lib.hid hri
  clear hri
  have HE : Hid (exB c xs r = !(xs.any (fun d => wdB c.wd d != r))) := by
    show _ = _
    cases hh : xs.any (fun d => wdB c.wd d != r) with
    | true =>
      rw [List.any_eq_true] at hh
      obtain ⟨d, hd, h⟩ := hh
      exact exB_no fun g => by have := g.2.2 d hd; rw [this] at h; simp at h
    | false =>
      rw [List.any_eq_false] at hh
      exact exB_yes ⟨h8, HRi.out, fun d hd => by have := hh d hd; simpa using this⟩
  go_enter Try.func77, Try.ntmps77
  go_wp2_with fail
  go_at_call 67
  refine (areDaysWithin_any _ xs c.frm c.too _ (HL.out _ HB0.out)).mono ?_
  rintro e w' ⟨rfl, rfl⟩
  rw [HR.out]
  go_wp2_with fail
  go_at_call 106
  refine (containsEx_any _ xs _ _ c.wd r _ (HL.out _ HB0.out) (by go_simp) (by go_simp) n4 n5 (fun x hx => ?hb)).mono ?_
  case hb => have := rise_mem HRi.out x hx; exact ⟨by omega, by omega⟩
  rintro e w1 ⟨rfl, hb1⟩
  go_wp2_with fail
  go_ret
  exact ⟨ret_bool HE.out.symm, HB0.out.trans (hb1.mono (by simp; omega))⟩
end Go.Proofs.Ytemejcbilhcebaa

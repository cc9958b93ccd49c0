/-
  CONTRACTS: the comparison that the program sorts by, and its sort of a row of spans of its own.
-/
import Derived.Test.YtenbplehiaofmaaSortLay
import Derived.Test.YtenbplehiaofmaaSpanX
import Derived.Lib.OwnBridge
namespace Go.Proofs.Ytenbplehiaofmaa
open Go.RowKit Go.Lib Go.Sort Go.Shelf
set_option linter.unusedVariables false

def encS (x : Int × Int) : List Value := [.int .i64 x.1, .int .i64 x.2]
set_option maxHeartbeats 1000000 in
theorem cmpSpan (x y : Int × Int) (W : World) : Calls Try.prog 64 #[.agg #[.int .i64 x.1, .int .i64 x.2], .agg #[.int .i64 y.1, .int .i64 y.2]] W fun e w' => e = .returned (.int .i64 (Lib.compareInt x.1 y.1)) ∧ ∃ q os', w' = grow (W.drewN q) os' := by
  have hcon := fun W' => AnyG.cmp_Compare_int Try.cmpInt x.1 y.1 W'
  change ∀ W', Calls Try.prog 65 _ _ _ at hcon
  generalize Lib.compareInt x.1 y.1 = r at hcon ⊢
  go_enter Try.func64, Try.ntmps64
  go_wp2_with (go_at_call 65; refine (hcon _).mono ?_; rintro e w' ⟨rfl, rfl⟩)
  go_ret
  exact ⟨rfl, 0, _, by rw [alloc_eq_grow, alloc_eq_grow, grow_grow]; rfl⟩
theorem cmpSpanLays (blk off size : Nat) (w : World) : CmpLays Try.prog 64 #[] encS 2 (fun x y => Lib.compareInt x.1 y.1) blk off size w :=
  fun _ _ _ _ x y => cmpSpan x y _
theorem ltFrom (x y : Int × Int) : ltOf (fun x y : Int × Int => Lib.compareInt x.1 y.1) x y = decide (x.1 < y.1) := by
  unfold ltOf Lib.compareInt
  by_cases h1 : x.1 < y.1
  · simp [h1]
  · by_cases h2 : y.1 < x.1 <;> simp [h1, h2]
theorem swoFrom : SWO (ltOf fun x y : Int × Int => Lib.compareInt x.1 y.1) where
  irrefl x := by rw [ltFrom]; simp
  trans x y z h1 h2 := by rw [ltFrom] at *; simp at *; omega
  ntrans x y z h1 h2 := by rw [ltFrom] at *; simp at *; omega

theorem spanC_flat (xs : List SpanD) (j : Nat) (h : j < xs.length * 2) : (spanC xs)[j]? = some ((flatK encS 2 xs.toArray)[j]!) := by
  rw [get_flatK _ _ _ _ (by simpa using h)]
  have hk : j / 2 < xs.length := by omega
  have e : xs.toArray[j / 2]! = xs[j / 2] := by simp [hk]
  rw [e]
  by_cases h2 : j % 2 = 0
  · have := spanC_get0 xs (j / 2) hk
    rw [show j / 2 * 2 = j by omega] at this
    rw [this, h2]; rfl
  · have := spanC_get1 xs (j / 2) hk
    rw [show j / 2 * 2 + 1 = j by omega] at this
    rw [this, show j % 2 = 1 by omega]; rfl
theorem own2_holds {w : World} {B : Nat} {e : TypeId} {g c : Nat} {xs : List SpanD} (h : w.ownsRow B e 2 (.slice (some ⟨g, 0, none⟩) xs.length c) xs.length (spanC xs)) : HoldsK encS 2 w g 0 xs.toArray := by
  intro j hj
  have hj' : j < xs.length * 2 := by simpa using hj
  rw [Nat.zero_add]
  exact ⟨by rw [h.cellAt j (by omega)]; exact spanC_flat xs j hj', h.frozenAt j⟩
theorem own2_sorted {w : World} {B : Nat} {e : TypeId} {g c q : Nat} {xs ys : List SpanD} {os : Array Obj} (h : w.ownsRow B e 2 (.slice (some ⟨g, 0, none⟩) xs.length c) xs.length (spanC xs)) (hy : ys.length = xs.length) :
    (grow (putRowK encS 2 (Sort.ahead w q) g 0 ys.toArray) os).ownsRow B e 2 (.slice (some ⟨g, 0, none⟩) xs.length c) xs.length (spanC ys) := by
  have hlt := (h.lt g rfl).2
  rcases h.2 with ⟨e0, _⟩ | ⟨g', cap', cur, e0, hb, hg, hn, hm, hs, ht⟩
  · cases e0
  · injection e0 with e1 _ e3
    injection e1 with e1
    injection e1 with e1
    subst e1; subst e3
    refine ⟨by rw [spanC_len]; omega, .inr ⟨g, c, putCells id 0 (flatK encS 2 ys.toArray) cur, rfl, hb, ?_, hn, hm, by simpa [putCells] using hs, ?_⟩⟩
    · have : (putRowK encS 2 (Sort.ahead w q) g 0 ys.toArray).heap[g]? = some (.cells (putCells id 0 (flatK encS 2 ys.toArray) cur) e (0, 0)) := by
        simp [putRowK, putRow, mapBlock, Sort.ahead, Array.getElem?_modify, hg, onCells]
      show ((putRowK encS 2 (Sort.ahead w q) g 0 ys.toArray).heap ++ os)[g]? = _
      rw [Array.getElem?_append_left (by simpa [putRowK, putRow, mapBlock, Sort.ahead] using hlt)]
      exact this
    · refine List.ext_getElem? fun j => ?_
      by_cases hj : j < xs.length * 2
      · rw [List.getElem?_take_of_lt hj, Array.getElem?_toList, spanC_flat ys j (by omega)]
        have hjs : j < cur.size := by
          have := Nat.mul_le_mul_right 2 hn; omega
        simp [putCells, hjs, hy, hj]
      · rw [List.getElem?_take_eq_none (by omega), List.getElem?_eq_none (by rw [spanC_len]; omega)]
theorem sorted_below {B : Nat} {w0 w : World} {g q : Nat} {d : Array SpanD} {os : Array Obj} (h : Below B w0 w) (hg : B ≤ g) (hl : g < w.heap.size) : Below B w0 (grow (putRowK encS 2 (Sort.ahead w q) g 0 d) os) := by
  have h1 : Below B w0 (putRowK encS 2 (Sort.ahead w q) g 0 d) := Lib.below_putRow h hg
  refine ⟨h1.os, h1.tape, h1.output, by have := h1.size; simp [grow]; omega, fun k hk => ?_⟩
  rw [← h1.block k hk]
  show ((putRowK encS 2 (Sort.ahead w q) g 0 d).heap ++ os)[k]? = _
  rw [Array.getElem?_append_left]
  simp [putRowK, putRow, mapBlock, Sort.ahead]; omega

/-- the sort of a row of the call's own -/
theorem sortSpans_own (xs : List SpanD) (g c B : Nat) (w : World) (h : w.ownsRow B 26 2 (.slice (some ⟨g, 0, none⟩) xs.length c) xs.length (spanC xs)) (hn : xs.length ≤ 1048576) :
    Calls Try.prog 63 #[.slice (some ⟨g, 0, none⟩) xs.length c, .func (.func 64) #[] #[]] w fun e w' =>
      e = .returned (.tuple #[]) ∧ ∃ ys : List SpanD, ys.length = xs.length ∧ (∀ s, s ∈ ys ↔ s ∈ xs) ∧ ys.Pairwise (fun a b => a.1 ≤ b.1) ∧ w'.ownsRow B 26 2 (.slice (some ⟨g, 0, none⟩) xs.length c) xs.length (spanC ys) ∧ ∀ w0, Below B w0 w → Below B w0 w' := by
  have eg : ∀ args w, (callFunc 64 args).run Try.prog w = .ok (.enter 64 args) w := enters_of Try.func64 (by kernel_rfl) rfl
  have hlt := (h.lt g rfl).2
  have hBg := (h.lt g rfl).1
  have hcon := AnyQ.slices_SortFunc Try.sortSpan 2 Try.isAgg26 Try.sizeOf26 encS (fun _ => rfl) (fun x v hv => by simp [encS] at hv; rcases hv with rfl | rfl <;> rfl) (fun x y => Lib.compareInt x.1 y.1) swoFrom 64 #[] g 0 c xs.toArray w eg (cmpSpanLays g 0 xs.toArray.size w) (own2_holds h) hlt (by simp; omega)
  rw [show xs.toArray.size = xs.length by simp] at hcon
  change Calls Try.prog 63 _ _ _ at hcon
  refine hcon.mono ?_
  rintro e w' ⟨rfl, d', q, os, ⟨p1, _, p3⟩, hs, rfl⟩
  have hl : d'.toList.length = xs.length := by simpa using p1
  have hperm : d'.toList.Perm xs := by
    have e1 : d'.extract 0 xs.length = d' := by rw [show xs.length = d'.size by simpa using hl.symm]; simp
    have e2 : xs.toArray.extract 0 xs.length = xs.toArray := by simp
    simpa [e1, e2] using p3
  refine ⟨rfl, d'.toList, hl, fun s => hperm.mem_iff, ?_, ?_, fun w0 hb => ?_⟩
  · rw [List.pairwise_iff_getElem]
    intro i j hi hj hij
    have := hs i j (Nat.zero_le _) hij (by simpa [hl] using hj)
    rw [ltFrom] at this
    have hi' : i < d'.size := by simpa using hi
    have hj' : j < d'.size := by simpa using hj
    simp [hi', hj'] at this
    simpa using this
  · have := own2_sorted (q := q) (os := os) (ys := d'.toList) h hl
    simpa [sortWorldK] using this
  · exact sorted_below hb hBg hlt
end Go.Proofs.Ytenbplehiaofmaa

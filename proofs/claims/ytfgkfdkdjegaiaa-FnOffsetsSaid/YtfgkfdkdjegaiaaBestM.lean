import Derived.Test.YtfgkfdkdjegaiaaBestS
namespace Go.Proofs.Ytfgkfdkdjegaiaa
open Go.RowKit
set_option linter.unusedVariables false
set_option linter.unusedSimpArgs false

def Mt (xs : List PatternD) (p : Int) (c : Nat) (i : Nat) (ms : List PatternD) : Prop :=
  ms.length = 3 ∧ (∀ j (h : j < xs.length) (h' : j < ms.length), ms[j].line = xs[j].line) ∧ ∀ j (h : j < xs.length) (h' : j < ms.length), j < i → ms[j].offs = if j = 0 then xs[j].offs else dgt p c (i - 1 - j)
theorem Mt.step {xs : List PatternD} {p : Int} {q c i o : Nat} {ms : List PatternD} (h : Mt xs p c i ms) (hp : 1 ≤ p) (hq : p = q) (h1 : 1 ≤ i) (hi : i < xs.length) (h3 : xs.length ≤ 3) (ho : o < q) (s : PatternD) (hs : s = ⟨(ms.getD i ⟨0, 0⟩).line, o⟩) :
    Mt xs p (c * q + o) (i + 1) (ms.set i s) := by
  obtain ⟨hl, ha, hb⟩ := h
  have him : i < ms.length := by omega
  have hs' : s = ⟨ms[i].line, (o : Int)⟩ := by rw [hs]; simp [List.getD, him]
  have ecast : ((c * q + o : Nat) : Int) = (c : Int) * p + o := by rw [hq]; push_cast; rfl
  refine ⟨by rw [List.length_set]; exact hl, fun j hj hj' => ?_, fun j hj hj' hji => ?_⟩
  · rw [List.getElem_set]; split
    · rename_i e; subst e; rw [hs']; exact ha i hj him
    · exact ha j hj _
  · rw [List.getElem_set, ecast]; split
    · rename_i e; subst e
      rw [hs', if_neg (by omega), show i + 1 - 1 - i = 0 by omega, dgt_last hp (by omega)]
    · rename_i e
      rw [hb j hj (by omega) (by omega)]
      by_cases h0 : j = 0
      · rw [if_pos h0, if_pos h0]
      · rw [if_neg h0, if_neg h0, show i + 1 - 1 - j = (i - 1 - j) + 1 by omega, dgt_next hp (by omega)]
theorem Mt.back {xs : List PatternD} {p : Int} {q c i o : Nat} {ms : List PatternD} (h : Mt xs p (c * q + o) (i + 1) ms) (hp : 1 ≤ p) (hq : p = q) (h1 : 1 ≤ i) (ho : o < q) : Mt xs p c i ms := by
  obtain ⟨hl, ha, hb⟩ := h
  have ecast : ((c * q + o : Nat) : Int) = (c : Int) * p + o := by rw [hq]; push_cast; rfl
  refine ⟨hl, ha, fun j hj hj' hji => ?_⟩
  have := hb j hj hj' (by omega)
  rw [this, ecast]
  by_cases h0 : j = 0
  · rw [if_pos h0, if_pos h0]
  · rw [if_neg h0, if_neg h0, show i + 1 - 1 - j = (i - 1 - j) + 1 by omega, dgt_next hp (by omega)]
theorem Mt.all {xs : List PatternD} {p : Int} {c : Nat} {ms : List PatternD} (h : Mt xs p c xs.length ms) (h3 : xs.length ≤ 3) : ms.take xs.length = tT xs p c := by
  obtain ⟨hl, ha, hb⟩ := h
  refine List.ext_getElem (by rw [tT_len, List.length_take]; omega) (fun j h1 h2 => ?_)
  have hj : j < xs.length := by rw [tT_len] at h2; exact h2
  have hjm : j < ms.length := by omega
  rw [List.getElem_take, tT_get hj]
  have e1 := ha j hj hjm
  have e2 := hb j hj hjm hj
  have e3 : ms[j] = ⟨ms[j].line, ms[j].offs⟩ := rfl
  rw [e3, e1, e2]
  by_cases h0 : j = 0
  · rw [if_pos h0, if_neg (by omega)]
  · rw [if_neg h0, if_pos (by omega)]

def AccB (n : NetD) (p : Int) (xs : List PatternD) (stop : Int) (k : Nat) (bs : List PatternD) (sml : Int) : Prop :=
  bs.length = 3 ∧ sml = (bestA n p xs stop k).2 ∧ (1 ≤ k → (bs.take xs.length).map (fun x => x.offs) = (bestA n p xs stop k).1)
theorem AccB.see {n : NetD} {p : Int} {xs : List PatternD} {stop : Int} {k : Nat} {bs ms : List PatternD} {sml : Int} (h : AccB n p xs stop k bs sml) (hp : 1 ≤ p) (h0 : 0 < (restS n p xs stop).length) (h3 : xs.length ≤ 3) (hm : Mt xs p k xs.length ms) (g : Int) (hg : g = gapT n p (tT xs p k) stop) :
    AccB n p xs stop (k + 1) (if g < sml then ms else bs) (if g < sml then g else sml) := by
  obtain ⟨hl, hs, hb⟩ := h
  subst hg
  subst hs
  have hgi := gapT_in (n := n) (ys := tT xs p k) (stop := stop) hp (by rw [restS_same hp (tT_same xs p k)]; exact h0)
  by_cases hc : gapT n p (tT xs p k) stop < (bestA n p xs stop k).2
  · rw [if_pos hc, if_pos hc]
    refine ⟨hm.1, by rw [bestA_yes hc], fun _ => ?_⟩
    rw [bestA_yes hc, hm.all h3, oT_map]
  · rw [if_neg hc, if_neg hc]
    refine ⟨hl, by rw [bestA_no hc], fun _ => ?_⟩
    rw [bestA_no hc]
    refine hb ?_
    by_cases hk : 1 ≤ k
    · exact hk
    · exfalso
      obtain rfl : k = 0 := by omega
      exact hc (by show _ < p + 1; omega)
theorem patC_setO : ∀ (xs : List PatternD) (k : Nat) (o : Int) (hk : k < xs.length), (patC xs).set (k * 2 + 1) (.int .i64 o) = patC (xs.set k ⟨xs[k].line, o⟩)
  | x :: xs, 0, o, _ => rfl
  | x :: xs, k + 1, o, hk => by
    have := patC_setO xs k o (by simpa using hk)
    rw [show (k + 1) * 2 + 1 = k * 2 + 1 + 1 + 1 by omega]
    simpa [patC] using this

structure EB (w : World) (nv0 nv1 lst : Value) (p stop : Int) (G : Nat) (bs : List PatternD) (sml : Int) (W : World) : Prop where
  bel : Below w.heap.size w W
  hG : w.heap.size + 4 ≤ G
  sz : G + 2 ≤ W.heap.size
  n0 : W.cell? ⟨w.heap.size, 0, none⟩ = some nv0
  n1 : W.cell? ⟨w.heap.size, 1, none⟩ = some nv1
  pe : W.cell? ⟨w.heap.size + 1, 0, none⟩ = some (.int .i64 p)
  li : W.cell? ⟨w.heap.size + 2, 0, none⟩ = some lst
  sp : W.cell? ⟨w.heap.size + 3, 0, none⟩ = some (.int .i64 stop)
  be : W.ownsRow w.heap.size 89 2 (.slice (some ⟨G, 0, none⟩) 3 3) 3 (patC bs)
  sm : W.ownsRow w.heap.size 3 1 (.slice (some ⟨G + 1, 0, none⟩) 1 1) 1 [.int .i64 sml]
variable {w W W' : World} {nv0 nv1 lst : Value} {p stop sml : Int} {G : Nat} {bs ms : List PatternD}
theorem EB.later (h : EB w nv0 nv1 lst p stop G bs sml W) (hb : Below W.heap.size W W') : EB w nv0 nv1 lst p stop G bs sml W' :=
  ⟨h.bel.trans (hb.mono h.bel.size), h.hG, by have := h.sz; have := hb.size; omega, bkeep hb h.n0, bkeep hb h.n1, bkeep hb h.pe, bkeep hb h.li, bkeep hb h.sp, own_later h.be hb, own_later h.sm hb⟩

theorem EB.other (h : EB w nv0 nv1 lst p stop G bs sml W) {m : Nat} (hg : W.grownBy W' (some m)) (hm : G + 2 ≤ m) : EB w nv0 nv1 lst p stop G bs sml W' := by
  have hG := h.hG
  have hne : ∀ {q z : Nat} {c : Nat}, q < m → (Value.slice (some ⟨q, 0, none⟩) z c).ownBlock ≠ some m := fun hq e => by simp [Value.ownBlock] at e; omega
  exact ⟨h.bel.grown hg h.bel.size (fun g e => by cases e; omega), h.hG, by have := h.sz; have := hg.size; omega, grB_cell hg h.n0 (by show w.heap.size ≠ m; omega), grB_cell hg h.n1 (by show w.heap.size ≠ m; omega), grB_cell hg h.pe (by show w.heap.size + 1 ≠ m; omega), grB_cell hg h.li (by show w.heap.size + 2 ≠ m; omega), grB_cell hg h.sp (by show w.heap.size + 3 ≠ m; omega), h.be.kept hg (.inr (hne (by omega))), h.sm.kept hg (.inr (hne (by omega)))⟩
end Go.Proofs.Ytfgkfdkdjegaiaa

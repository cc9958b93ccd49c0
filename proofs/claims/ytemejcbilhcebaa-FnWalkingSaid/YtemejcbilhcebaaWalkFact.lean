import Derived.Test.YtemejcbilhcebaaCloseWalks
import Derived.Test.YtemejcbilhcebaaShortestWalk
namespace Go.Proofs.Ytemejcbilhcebaa
open Go.RowKit
set_option linter.unusedVariables false
set_option linter.unusedSimpArgs false

theorem next_fwd {n : Nat} {ws : List WlkD} (hv : WksOk n ws) {x : WlkD} (hx : x ∈ ws) : nextOf x x.a.toNat = some x.b.toNat ∧ nextOf x x.b.toNat = some x.a.toNat ∧ x.a.toNat < n ∧ x.b.toNat < n ∧ x.a.toNat < x.b.toNat := by
  obtain ⟨h1, h2, h3, -, -⟩ := hv.each x hx
  have e1 : ((x.a.toNat : Nat) : Int) = x.a := by omega
  have e2 : ((x.b.toNat : Nat) : Int) = x.b := by omega
  refine ⟨?_, ?_, by omega, by omega, by omega⟩
  · unfold nextOf; rw [if_pos e1]
  · unfold nextOf; rw [if_neg (by omega), if_pos e2]
theorem next_swap {n : Nat} {ws : List WlkD} (hv : WksOk n ws) {x : WlkD} (hx : x ∈ ws) {s t : Nat} (h : nextOf x s = some t) : nextOf x t = some s := by
  obtain ⟨h1, h2, h3, -, -⟩ := hv.each x hx
  unfold nextOf at *
  split at h
  · rename_i e
    injection h with h
    subst h
    rw [if_neg (by omega), if_pos (by omega)]
    congr 1; omega
  · split at h
    · rename_i e e2
      injection h with h
      subst h
      rw [if_pos (by omega)]
      congr 1; omega
    · cases h
theorem way_trans {ws : List WlkD} {f s t k m : Nat} (h : Way ws f s k) (g : Way ws s t m) : Way ws f t (k + m) := by
  induction g with
  | here => exact h
  | go g hx ht ih =>
    have := ih.go hx ht
    rw [Nat.add_assoc] at this
    exact this
theorem way_sym {n : Nat} {ws : List WlkD} (hv : WksOk n ws) {f s k : Nat} (h : Way ws f s k) : Way ws s f k := by
  induction h with
  | here => exact .here
  | go h hx ht ih =>
    have h1 := (Way.here (ws := ws)).go hx (next_swap hv hx ht)
    have := way_trans h1 ih
    rw [Nat.zero_add, Nat.add_comm] at this
    exact this

theorem wt_cases {n f : Nat} {ws : List WlkD} (hv : WksOk n ws) (hf : f < n) {s : Nat} (hs : s < n) : (wat (wt ws n f) s = -1 ∧ ∀ k, ¬ Way ws f s k) ∨ ∃ k : Nat, wat (wt ws n f) s = k ∧ Way ws f s k ∧ ∀ k', Way ws f s k' → k ≤ k' := by
  have h := wt_isWT hv hf
  have hl : s < (wt ws n f).length := by rw [h.1]; exact hs
  rw [wat_at hl]
  exact h.2 s hl
theorem wt_sym {n f s : Nat} {ws : List WlkD} (hv : WksOk n ws) (hf : f < n) (hs : s < n) : wat (wt ws n f) s = wat (wt ws n s) f := by
  rcases wt_cases hv hf hs with ⟨e, hn⟩ | ⟨k, e, hk, hl⟩ <;> rcases wt_cases hv hs hf with ⟨e', hn'⟩ | ⟨k', e', hk', hl'⟩
  · rw [e, e']
  · exact absurd (way_sym hv hk') (hn _)
  · exact absurd (way_sym hv hk) (hn' _)
  · have := hl _ (way_sym hv hk'); have := hl' _ (way_sym hv hk); rw [e, e']; omega
theorem wt_zero {n f : Nat} {ws : List WlkD} (hv : WksOk n ws) (hf : f < n) : wat (wt ws n f) f = 0 := by
  rcases wt_cases hv hf hf with ⟨e, hn⟩ | ⟨k, e, hk, hl⟩
  · exact absurd .here (hn 0)
  · have := hl _ .here; rw [e]; omega
theorem wt_tri {n f a b : Nat} {ws : List WlkD} (hv : WksOk n ws) (hf : f < n) (ha : a < n) (hb : b < n) (h0 : 0 ≤ wat (wt ws n f) a) (h1 : 0 ≤ wat (wt ws n a) b) : 0 ≤ wat (wt ws n f) b ∧ wat (wt ws n f) b ≤ wat (wt ws n f) a + wat (wt ws n a) b := by
  rcases wt_cases hv hf ha with ⟨e, hn⟩ | ⟨k, e, hk, hl⟩
  · omega
  rcases wt_cases hv ha hb with ⟨e2, hn⟩ | ⟨m, e2, hm, hl2⟩
  · omega
  rcases wt_cases hv hf hb with ⟨e3, hn⟩ | ⟨q, e3, hq, hl3⟩
  · exact absurd (way_trans hk hm) (hn _)
  · have := hl3 _ (way_trans hk hm); rw [e, e2, e3]; omega

theorem walk_tri {n f : Nat} {ws : List WlkD} (hv : WksOk n ws) (hf : f < n) {x : WlkD} (hx : x ∈ ws) :
    (wat (wt ws n f) x.a.toNat < 0 ↔ wat (wt ws n f) x.b.toNat < 0) ∧ wat (wt ws n f) x.a.toNat ≤ wat (wt ws n f) x.b.toNat + x.m ∧ wat (wt ws n f) x.b.toNat ≤ wat (wt ws n f) x.a.toNat + x.m := by
  obtain ⟨n1, n2, ha, hb, hab⟩ := next_fwd hv hx
  have hm := (hv.each x hx).2.2.2
  rcases wt_cases hv hf ha with ⟨e, hn⟩ | ⟨k, e, hk, hl⟩ <;> rcases wt_cases hv hf hb with ⟨e2, hn2⟩ | ⟨q, e2, hq, hl2⟩
  · rw [e, e2]; omega
  · exact absurd (hq.go hx n2) (hn _)
  · exact absurd (hk.go hx n1) (hn2 _)
  · have := hl _ (hq.go hx n2); have := hl2 _ (hk.go hx n1); rw [e, e2]; omega

theorem mem_clR {R : List Int} {a : Nat} {x : WlkD} : ∀ {j : Nat}, x ∈ clR R a j ↔ ∃ i, i < j ∧ 0 < wat R (a + 1 + i) ∧ x = ⟨(a : Int), ((a + 1 + i : Nat) : Int), wat R (a + 1 + i)⟩
  | 0 => by simp [clR]
  | j + 1 => by
    simp only [clR, List.mem_append, mem_clR (j := j)]
    constructor
    · rintro (⟨i, h1, h2, h3⟩ | h)
      · exact ⟨i, by omega, h2, h3⟩
      · split at h
        · rename_i h0
          simp at h
          exact ⟨j, by omega, h0, by rw [h]; simp⟩
        · simp at h
    · rintro ⟨i, h1, h2, h3⟩
      by_cases e : i = j
      · subst e; right; rw [if_pos h2]; simp [h3]
      · exact .inl ⟨i, by omega, h2, h3⟩
theorem mem_clF {ws : List WlkD} {N : Nat} {x : WlkD} : ∀ {A : Nat}, x ∈ clF ws N A ↔ ∃ a b : Nat, a < A ∧ a < b ∧ b < N ∧ 0 < wat (wt ws N a) b ∧ x = ⟨(a : Int), (b : Int), wat (wt ws N a) b⟩
  | 0 => by simp [clF]
  | A + 1 => by
    simp only [clF, List.mem_append, mem_clF (A := A), mem_clR]
    constructor
    · rintro (⟨a, b, h1, h2, h3, h4, h5⟩ | ⟨i, h1, h2, h3⟩)
      · exact ⟨a, b, by omega, h2, h3, h4, h5⟩
      · exact ⟨A, A + 1 + i, by omega, by omega, by omega, h2, h3⟩
    · rintro ⟨a, b, h1, h2, h3, h4, h5⟩
      by_cases e : a = A
      · subst e
        right
        refine ⟨b - (a + 1), by omega, ?_, ?_⟩
        · rw [show a + 1 + (b - (a + 1)) = b by omega]; exact h4
        · rw [show a + 1 + (b - (a + 1)) = b by omega]; exact h5
      · exact .inl ⟨a, b, by omega, h2, h3, h4, h5⟩
theorem close_wt {N : Nat} {ws : List WlkD} (hv : WksOk N ws) (hc : WksOk N (clF ws N N)) {f : Nat} (hf : f < N) : wt (clF ws N N) N f = wt ws N f := by
  refine wt_eq (isWT_of_closed hc (wt_len hv hf) (fun s hs => ?_) (wt_zero hv hf) (fun x hx s t ht h0 => ?_))
  · rcases wt_cases hv hf hs with ⟨e, -⟩ | ⟨k, e, hk, -⟩
    · exact .inl e
    · right
      by_cases hsf : s = f
      · subst hsf
        exact ⟨0, by rw [wt_zero hv hf]; rfl, .here⟩
      · have hp := way_pos hv hk hsf
        rcases Nat.lt_or_gt_of_ne hsf with h | h
        · have hsy := wt_sym hv hf hs
          have hx : (⟨(s : Int), (f : Int), wat (wt ws N s) f⟩ : WlkD) ∈ clF ws N N := mem_clF.2 ⟨s, f, hs, h, hf, by rw [← hsy, e]; omega, rfl⟩
          have hn : nextOf (⟨(s : Int), (f : Int), wat (wt ws N s) f⟩ : WlkD) f = some s := by
            unfold nextOf; rw [if_neg (by show ¬ ((f : Int) = (s : Int)); omega), if_pos rfl]; simp
          have hw := (Way.here (ws := clF ws N N) (f := f)).go hx hn
          refine ⟨_, ?_, hw⟩
          show _ = ((0 + (wat (wt ws N s) f).toNat : Nat) : Int)
          rw [← hsy, e]; simp
        · have hx : (⟨(f : Int), (s : Int), wat (wt ws N f) s⟩ : WlkD) ∈ clF ws N N := mem_clF.2 ⟨f, s, hf, h, hs, by rw [e]; omega, rfl⟩
          have hn : nextOf (⟨(f : Int), (s : Int), wat (wt ws N f) s⟩ : WlkD) f = some s := by
            unfold nextOf; rw [if_pos rfl]; simp
          have hw := (Way.here (ws := clF ws N N) (f := f)).go hx hn
          refine ⟨_, ?_, hw⟩
          show _ = ((0 + (wat (wt ws N f) s).toNat : Nat) : Int)
          rw [e]; simp
  · obtain ⟨a, b, ha, hab, hb, hm, rfl⟩ := mem_clF.1 hx
    obtain ⟨hs, htl, -⟩ := nextOf_lt hc hx ht
    unfold nextOf at ht
    split at ht
    · rename_i e
      have e : (s : Int) = (a : Int) := e
      obtain rfl : s = a := by omega
      injection ht with ht
      have ht : ((b : Int)).toNat = t := ht
      obtain rfl : b = t := by simpa using ht
      exact wt_tri hv hf ha hb h0 (by omega)
    · split at ht
      · rename_i e2
        have e2 : (s : Int) = (b : Int) := e2
        obtain rfl : s = b := by omega
        injection ht with ht
        have ht : ((a : Int)).toNat = t := ht
        obtain rfl : a = t := by simpa using ht
        have := wt_tri hv hf hb ha h0 (by rw [wt_sym hv hb ha]; omega)
        rw [wt_sym hv hb ha] at this
        exact this
      · cases ht
theorem close_us {N : Nat} {ws : List WlkD} (hv : WksOk N ws) (hc : WksOk N (clF ws N N)) : ∀ k, usF (clF ws N N) N k = []
  | 0 => rfl
  | k + 1 => by
    by_cases h : k < (clF ws N N).length
    · rw [usF_no h, close_us hv hc k]
      obtain ⟨a, b, ha, hab, hb, hm, e⟩ := mem_clF.1 (List.getElem_mem h)
      rw [e]
      show ¬ wat (wt (clF ws N N) N ((a : Int)).toNat) ((b : Int)).toNat < wat (wt ws N a) b
      rw [show ((a : Int)).toNat = a by simp, show ((b : Int)).toNat = b by simp, close_wt hv hc ha]
      omega
    · simp only [usF, dif_neg h, List.append_nil]
      exact close_us hv hc k

def stepSum (ws : List WlkD) (l : List Int) : Nat → Int
  | 0 => 0
  | i + 1 => stepSum ws l i + minsI ws (l.getD i 0).toNat (l.getD (i + 1) 0).toNat
theorem stepSum_pre (ws : List WlkD) (l r : List Int) : ∀ i, i < l.length → stepSum ws (l ++ r) i = stepSum ws l i
  | 0, _ => rfl
  | i + 1, h => by
    simp only [stepSum, stepSum_pre ws l r i (by omega)]
    rw [List.getD_eq_getElem?_getD, List.getD_eq_getElem?_getD, List.getD_eq_getElem?_getD, List.getD_eq_getElem?_getD, List.getElem?_append_left (by omega), List.getElem?_append_left h]
theorem chn_steps {n f : Nat} {ws : List WlkD} (hv : WksOk n ws) : ∀ {p : Chn}, IsChn ws f p → (fwI p).length = p.length ∧ 0 < p.length ∧ (fwI p).getD 0 0 = f ∧ (fwI p).getD (p.length - 1) 0 = sOf p ∧ stepSum ws (fwI p) (p.length - 1) = mOf p ∧ ∀ i, i + 1 < p.length → 0 ≤ minsI ws ((fwI p).getD i 0).toNat ((fwI p).getD (i + 1) 0).toNat
  | [(s, m)], ⟨h1, h2⟩ => by
    subst h1; subst h2
    refine ⟨fwI_len _, by simp, ?_, ?_, ?_, fun i hi => by simp at hi⟩
    · simp [fwI, fw, stopsOf]
    · simp [fwI, fw, stopsOf, sOf]
    · simp [stepSum, mOf]
  | (t, k) :: (s, m) :: q, ⟨⟨x, hx, ht, hk⟩, h⟩ => by
    obtain ⟨g1, g2, g3, g4, g5, g6⟩ := chn_steps hv h
    have e : fwI ((t, k) :: (s, m) :: q) = fwI ((s, m) :: q) ++ [(t : Int)] := fwI_cons _ _
    have hlen : ((t, k) :: (s, m) :: q).length = ((s, m) :: q).length + 1 := rfl
    generalize hQ : fwI ((s, m) :: q) = Q at *
    generalize hL : ((s, m) :: q).length = L at *
    have hlast : (Q ++ [(t : Int)]).getD L 0 = t := by rw [List.getD_eq_getElem?_getD, List.getElem?_append_right (by omega), g1]; simp
    have hpre : ∀ i, i < L → (Q ++ [(t : Int)]).getD i 0 = Q.getD i 0 := fun i hi => by rw [List.getD_eq_getElem?_getD, List.getD_eq_getElem?_getD, List.getElem?_append_left (by omega)]
    have hs4 : Q.getD (L - 1) 0 = (s : Int) := g4
    have hstep : minsI ws (Q.getD (L - 1) 0).toNat ((Q ++ [(t : Int)]).getD L 0).toNat = x.m := by
      rw [hs4, hlast]
      simpa using minsI_yes hv hx ht
    have hmx := (hv.each x hx).2.2.2
    rw [e, hlen]
    refine ⟨by rw [List.length_append, g1]; rfl, by omega, ?_, ?_, ?_, fun i hi => ?_⟩
    · rw [hpre 0 g2]; exact g3
    · rw [Nat.add_sub_cancel, hlast]; rfl
    · rw [Nat.add_sub_cancel]
      obtain ⟨L', rfl⟩ : ∃ L', L = L' + 1 := ⟨L - 1, by omega⟩
      rw [show stepSum ws (Q ++ [(t : Int)]) (L' + 1) = stepSum ws (Q ++ [(t : Int)]) L' + minsI ws ((Q ++ [(t : Int)]).getD L' 0).toNat ((Q ++ [(t : Int)]).getD (L' + 1) 0).toNat from rfl, stepSum_pre _ _ _ _ (by omega), hpre L' (by omega)]
      rw [Nat.add_sub_cancel] at g5 hstep
      rw [g5, hstep]
      show ((mOf ((s, m) :: q) : Nat) : Int) + x.m = ((k : Nat) : Int)
      show ((m : Nat) : Int) + x.m = ((k : Nat) : Int)
      omega
    · by_cases hi2 : i + 1 < L
      · rw [hpre i (by omega), hpre (i + 1) hi2]; exact g6 i hi2
      · obtain rfl : i = L - 1 := by omega
        rw [hpre (L - 1) (by omega), show L - 1 + 1 = L by omega, hstep]
        omega
end Go.Proofs.Ytemejcbilhcebaa

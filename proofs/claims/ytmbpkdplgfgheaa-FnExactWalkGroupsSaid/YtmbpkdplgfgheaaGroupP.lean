/-
  PLAIN WORDS on groups of stops, of no program.
-/
import Derived.Test.YtmbpkdplgfgheaaWalkingTimes
import Derived.Test.YtmbpkdplgfgheaaWayBest
namespace Go.Proofs.Ytmbpkdplgfgheaa
set_option linter.unusedVariables false
set_option linter.unusedSimpArgs false

def ltW (x y : WlkD) : Prop := x.a < y.a ∨ (x.a = y.a ∧ x.b < y.b)
def shortW (ws : List WlkD) (lim : Int) : List WlkD := ws.filter (fun x => decide (x.m ≤ lim))
theorem wks_pairwise {n : Nat} {ws : List WlkD} (h : WksOk n ws) : ws.Pairwise ltW := by
  rw [List.pairwise_iff_getElem]
  intro i j hi hj hij
  induction j with
  | zero => omega
  | succ j ih =>
    have h1 := h.asc j hj
    by_cases e : i = j
    · subst e; exact h1
    · have h2 := ih (by omega) (by omega)
      unfold ltW at h2 ⊢
      omega
theorem short_ok {n : Nat} {ws : List WlkD} (h : WksOk n ws) (lim : Int) : WksOk n (shortW ws lim) := by
  refine ⟨Nat.le_trans (List.length_filter_le _ _) h.len, fun x hx => h.each x (List.mem_filter.1 hx).1, fun i hi => ?_⟩
  have hp := (wks_pairwise h).filter (fun x => decide (x.m ≤ lim))
  rw [List.pairwise_iff_getElem] at hp
  exact hp i (i + 1) (by unfold shortW at hi; omega) hi (by omega)
theorem short_succ {ws : List WlkD} {lim : Int} {k : Nat} (h : k < ws.length) : shortW (ws.take (k + 1)) lim = shortW (ws.take k) lim ++ (if ws[k].m ≤ lim then [ws[k]] else []) := by
  unfold shortW
  rw [List.take_succ_eq_append_getElem h, List.filter_append]
  congr 1
  simp only [List.filter_cons, List.filter_nil, decide_eq_true_eq]
/-! who is reached -/
def Rch (ws : List WlkD) (a b : Nat) : Prop := ∃ k, Way ws a b k
theorem Way.trans {ws : List WlkD} {a b c k m : Nat} (h : Way ws a b k) (g : Way ws b c m) : Way ws a c (k + m) := by
  induction g with
  | here => exact h
  | go g hx ht ih => rw [← Nat.add_assoc]; exact ih.go hx ht
theorem Rch.refl (ws : List WlkD) (a : Nat) : Rch ws a a := ⟨0, .here⟩
theorem Rch.trans {ws : List WlkD} {a b c : Nat} (h : Rch ws a b) (g : Rch ws b c) : Rch ws a c := by
  obtain ⟨k, h⟩ := h; obtain ⟨m, g⟩ := g; exact ⟨_, h.trans g⟩
theorem next_back {n : Nat} {ws : List WlkD} (hv : WksOk n ws) {x : WlkD} (hx : x ∈ ws) {s t : Nat} (h : nextOf x s = some t) : nextOf x t = some s := by
  rw [nextOf_iff hv hx] at h ⊢
  rw [Nat.min_comm, Nat.max_comm]; exact h
theorem Rch.symm {n : Nat} {ws : List WlkD} (hv : WksOk n ws) {a b : Nat} (h : Rch ws a b) : Rch ws b a := by
  obtain ⟨k, h⟩ := h
  induction h with
  | here => exact Rch.refl _ _
  | go h hx ht ih =>
    have h1 : Rch ws _ _ := ⟨_, (Way.here (ws := ws)).go hx (next_back hv hx ht)⟩
    exact h1.trans ih
theorem wt_rch {n f : Nat} {ws : List WlkD} (hv : WksOk n ws) (hf : f < n) {s : Nat} (hs : s < n) : 0 ≤ wat (wt ws n f) s ↔ Rch ws f s := by
  have h := wt_isWT hv hf
  have hl : s < (wt ws n f).length := by rw [h.1]; exact hs
  rw [wat_at hl]
  rcases h.2 s hl with ⟨e, hn⟩ | ⟨k, e, hk, _⟩
  · rw [e]; exact ⟨fun h => by omega, fun ⟨k, hk⟩ => absurd hk (hn k)⟩
  · rw [e]; exact ⟨fun _ => ⟨k, hk⟩, fun _ => by omega⟩
/-- the numbers of the first k stops that are reached -/
def grpF (R : List Int) : Nat → List Int
  | 0 => []
  | k + 1 => grpF R k ++ (if 0 ≤ wat R k then [(k : Int)] else [])
theorem grpF_yes {R : List Int} {k : Nat} (h : 0 ≤ wat R k) : grpF R (k + 1) = grpF R k ++ [(k : Int)] := by simp [grpF, h]
theorem grpF_no {R : List Int} {k : Nat} (h : ¬ 0 ≤ wat R k) : grpF R (k + 1) = grpF R k := by simp only [grpF, if_neg h, List.append_nil]
theorem grpF_len (R : List Int) : ∀ k, (grpF R k).length ≤ k
  | 0 => Nat.le_refl _
  | k + 1 => by
    have := grpF_len R k
    simp only [grpF, List.length_append]; split <;> simp <;> omega
theorem grpF_mem (R : List Int) (x : Nat) : ∀ k, (x : Int) ∈ grpF R k ↔ x < k ∧ 0 ≤ wat R x
  | 0 => by simp [grpF]
  | k + 1 => by
    have ih := grpF_mem R x k
    simp only [grpF, List.mem_append, ih]
    constructor
    · rintro (⟨h1, h2⟩ | h)
      · exact ⟨by omega, h2⟩
      · split at h
        · simp at h; have e : x = k := by omega
          subst e; exact ⟨by omega, by assumption⟩
        · cases h
    · rintro ⟨h1, h2⟩
      by_cases e : x = k
      · subst e; right; rw [if_pos h2]; simp
      · exact .inl ⟨by omega, h2⟩
theorem grpF_nat (R : List Int) : ∀ k y, y ∈ grpF R k → ∃ x : Nat, y = x ∧ x < k
  | 0, y, h => by cases h
  | k + 1, y, h => by
    simp only [grpF, List.mem_append] at h
    rcases h with h | h
    · obtain ⟨x, h1, h2⟩ := grpF_nat R k y h; exact ⟨x, h1, by omega⟩
    · split at h
      · simp at h; exact ⟨k, h, by omega⟩
      · cases h
theorem grpF_pre (R : List Int) (k : Nat) : ∀ d, grpF R k <+: grpF R (k + d)
  | 0 => List.prefix_refl _
  | d + 1 => (grpF_pre R k d).trans (List.prefix_append _ _)
/-- the first of a group -/
theorem grpF_head {R : List Int} {n s : Nat} (hs : s < n) (h : 0 ≤ wat R s) : (grpF R n).getD 0 0 = (s : Int) ↔ grpF R s = [] := by
  obtain ⟨d, rfl⟩ : ∃ d, n = s + 1 + d := ⟨n - (s + 1), by omega⟩
  obtain ⟨r, hr⟩ := grpF_pre R (s + 1) d
  rw [← hr, grpF_yes h]
  cases hg : grpF R s with
  | nil => simp
  | cons y ys =>
    obtain ⟨x, hx, hlt⟩ := grpF_nat R s y (by rw [hg]; exact List.mem_cons_self ..)
    simp only [List.cons_append, List.getD_cons_zero]
    constructor
    · intro e; omega
    · intro e; cases e
theorem grpF_nil {R : List Int} {s : Nat} : grpF R s = [] ↔ ∀ b, b < s → ¬ 0 ≤ wat R b := by
  constructor
  · intro h b hb hw
    have := (grpF_mem R b s).2 ⟨hb, hw⟩
    rw [h] at this; cases this
  · intro h
    cases hg : grpF R s with
    | nil => rfl
    | cons y ys =>
      obtain ⟨x, hx, hlt⟩ := grpF_nat R s y (by rw [hg]; exact List.mem_cons_self ..)
      have := (grpF_mem R x s).1 (by rw [hg, ← hx]; exact List.mem_cons_self ..)
      exact absurd this.2 (h x hlt)
/-- the group of a stop, the groups of the first stops, and the stops in them -/
noncomputable def grp (ws : List WlkD) (n s : Nat) : List Int := grpF (wt ws n s) n
noncomputable def seenF (ws : List WlkD) (n : Nat) : Nat → List Int
  | 0 => []
  | s + 1 => if (s : Int) ∈ seenF ws n s then seenF ws n s else seenF ws n s ++ grp ws n s
noncomputable def gsF (ws : List WlkD) (n : Nat) : Nat → List (List Int)
  | 0 => []
  | s + 1 => if (s : Int) ∈ seenF ws n s then gsF ws n s else gsF ws n s ++ [grp ws n s]
theorem seen_iff {n : Nat} {ws : List WlkD} (hv : WksOk n ws) : ∀ (s : Nat), s ≤ n → ∀ x, x < n → ((x : Int) ∈ seenF ws n s ↔ ∃ b, b < s ∧ Rch ws b x)
  | 0, _, x, hx => by simp [seenF]
  | s + 1, hs, x, hx => by
    have ih := seen_iff hv s (by omega)
    by_cases hm : (s : Int) ∈ seenF ws n s
    · rw [seenF, if_pos hm, ih x hx]
      constructor
      · rintro ⟨b, hb, h⟩; exact ⟨b, by omega, h⟩
      · rintro ⟨b, hb, h⟩
        by_cases e : b = s
        · subst e
          obtain ⟨b2, hb2, h2⟩ := (ih b (by omega)).1 hm
          exact ⟨b2, hb2, h2.trans h⟩
        · exact ⟨b, by omega, h⟩
    · rw [seenF, if_neg hm, List.mem_append, ih x hx, grp, grpF_mem, wt_rch hv (by omega) hx]
      constructor
      · rintro (⟨b, hb, h⟩ | ⟨_, h⟩)
        · exact ⟨b, by omega, h⟩
        · exact ⟨s, by omega, h⟩
      · rintro ⟨b, hb, h⟩
        by_cases e : b = s
        · subst e; exact .inr ⟨hx, h⟩
        · exact .inl ⟨b, by omega, h⟩
theorem lead_iff {n : Nat} {ws : List WlkD} (hv : WksOk n ws) {s : Nat} (hs : s < n) : (grp ws n s).getD 0 0 = (s : Int) ↔ ¬ (s : Int) ∈ seenF ws n s := by
  unfold grp
  rw [grpF_head hs ((wt_rch hv hs hs).2 (Rch.refl _ _)), grpF_nil, seen_iff hv s (by omega) s hs]
  constructor
  · rintro h ⟨b, hb, hr⟩
    exact h b hb ((wt_rch hv hs (by omega)).2 (Rch.symm hv hr))
  · intro h b hb hw
    exact h ⟨b, hb, Rch.symm hv ((wt_rch hv hs (by omega)).1 hw)⟩
theorem grp_pos {n : Nat} {ws : List WlkD} (hv : WksOk n ws) {s : Nat} (hs : s < n) : 0 < (grp ws n s).length := by
  have : (s : Int) ∈ grp ws n s := (grpF_mem _ s n).2 ⟨hs, (wt_rch hv hs hs).2 (Rch.refl _ _)⟩
  exact List.length_pos_of_mem this
theorem gsF_yes {n : Nat} {ws : List WlkD} (hv : WksOk n ws) {s : Nat} (hs : s < n) (h : (grp ws n s).getD 0 0 = (s : Int)) : gsF ws n (s + 1) = gsF ws n s ++ [grp ws n s] := by
  rw [gsF, if_neg ((lead_iff hv hs).1 h)]
theorem gsF_no {n : Nat} {ws : List WlkD} (hv : WksOk n ws) {s : Nat} (hs : s < n) (h : ¬ (grp ws n s).getD 0 0 = (s : Int)) : gsF ws n (s + 1) = gsF ws n s := by
  rw [gsF, if_pos (Classical.not_not.1 (fun g => h ((lead_iff hv hs).2 g)))]
theorem gsF_len (ws : List WlkD) (n : Nat) : ∀ s, (gsF ws n s).length ≤ s
  | 0 => Nat.le_refl _
  | s + 1 => by
    have := gsF_len ws n s
    rw [gsF]; split
    · omega
    · simp; omega
end Go.Proofs.Ytmbpkdplgfgheaa

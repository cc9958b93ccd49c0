/-
  A MAP FROM STOPS TO LEGS that the call makes: what each append and store leave; what a look-up gives.
-/
import Derived.Test.YtmcpafflnccfaaaHdrMap
import Derived.Test.YtmcpafflnccfaaaLegX
import Derived.Test.YtmcpafflnccfaaaJrnP
import Derived.Maps.AppendAt
namespace Go.Proofs.Ytmcpafflnccfaaa
open Go.RowKit Go.Maps
set_option linter.unusedVariables false

def legsAt (L : List LegD) (s : Int) : List LegD := L.filter (fun l => l.frm = s)
theorem legsAt_snoc (L : List LegD) (l : LegD) (s : Int) : legsAt (L ++ [l]) s = if l.frm = s then legsAt L s ++ [l] else legsAt L s := by
  unfold legsAt
  rw [List.filter_append]
  by_cases h : l.frm = s <;> simp [h]
theorem legsAt_len (L : List LegD) (s : Int) : (legsAt L s).length ≤ L.length := List.length_filter_le _ _
/-- block b maps each stop to its legs of L, in rows of the call's own from lo on, of which none is a block of which No holds -/
def LegMap (lo b : Nat) (No : Nat → Prop) (w : World) (L : List LegD) : Prop :=
  b < lo ∧ ∃ n f p, n ≤ L.length ∧ HdrMap Try.prog 3 (.slice none 0 0) b n f p w ∧
    (∀ s : Int, w.ownsRow lo 62 5 (f (iLit s)) (legsAt L s).length (legC (legsAt L s))) ∧
    (∀ s s' : Int, s ≠ s' → (f (iLit s)).ownBlock = none ∨ (f (iLit s)).ownBlock ≠ (f (iLit s')).ownBlock) ∧
    ∀ (s : Int) g, (f (iLit s)).ownBlock = some g → ¬ No g
theorem LegMap.made (w : World) : LegMap (w.heap.size + 1) w.heap.size (fun _ => False) (w.alloc (.map #[] 0)) [] :=
  ⟨Nat.lt_succ_self _, 0, _, _, Nat.le_refl _, HdrMap.made w _ _ _, fun s => by simpa [legsAt, legC] using World.ownsRow_nil _ _ _ _, fun s s' _ => .inl rfl, fun s g h => by simp [Value.ownBlock] at h⟩
theorem LegMap.later {lo b : Nat} {No : Nat → Prop} {w w' : World} {L : List LegD} (h : LegMap lo b No w L) (hb : Below w.heap.size w w') : LegMap lo b No w' L := by
  obtain ⟨h1, n, f, p, hn, hm, hr, hap, hno⟩ := h
  exact ⟨h1, n, f, p, hn, hm.later hb, fun s => own_later (hr s) hb, hap, hno⟩
/-- another No: what it holds of beyond the old one lies above the world -/
theorem LegMap.reno {lo b : Nat} {No No' : Nat → Prop} {w : World} {L : List LegD} (h : LegMap lo b No w L) (hn : ∀ g, No' g → No g ∨ w.heap.size ≤ g) : LegMap lo b No' w L := by
  obtain ⟨h1, n, f, p, hn', hm, hr, hap, hno⟩ := h
  refine ⟨h1, n, f, p, hn', hm, hr, hap, fun s g hg hN => ?_⟩
  rcases hn g hN with h2 | h2
  · exact hno s g hg h2
  · have := ((hr s).lt g hg).2; omega
theorem zeroLegS (w : World) : (zeroValue 30).run Try.prog w = .ok (.slice none 0 0) w := by kernel_rfl
theorem LegMap.look {lo b : Nat} {No : Nat → Prop} {w : World} {L : List LegD} (h : LegMap lo b No w L) (s : Int) (hs : (Lit.int .i64 s).wf = true) :
    ∃ v, (Instr.lookup 90 (.map (some b)) (.int .i64 s) false).run Try.prog w = .ok v w ∧ w.ownsRow lo 62 5 v (legsAt L s).length (legC (legsAt L s)) := by
  obtain ⟨h1, n, f, p, hn, hm, hr, hap, hno⟩ := h
  exact ⟨_, hm.look (int_keyed Try.underlying3) Try.underlying90 zeroLegS (keyOf_int_mk Try.underlying3 hs), hr s⟩
def legLit (l : LegD) : Obj := .cells #[.int .i64 l.trip, .int .i64 l.frm, .int .i64 l.dst, .int .i64 l.dep, .int .i64 l.arr] 62
theorem LegMap.push {lo b : Nat} {No : Nat → Prop} {w : World} {L : List LegD} (h : LegMap lo b No w L) (l : LegD) (hs : (Lit.int .i64 l.frm).wf = true) (hl : L.length + 1 ≤ 1048576) (hlo : lo ≤ w.heap.size) (hNo : ∀ g, No g → g < w.heap.size)
    (wl : World) (hbel : Below w.heap.size w wl) (g0 : Nat) (hcell : ∀ j u, (legC [l])[j]? = some u → wl.cell? ((⟨g0, 0, none⟩ : Addr).add j) = some u) :
    ∃ v v' w3 w4, (∀ W, Below w.heap.size w W → (Instr.lookup 90 (.map (some b)) (.int .i64 l.frm) false).run Try.prog W = .ok v W) ∧
      (Builtin.append_ #[30, 30] 30 #[v, .slice (some ⟨g0, 0, none⟩) 1 1]).run Try.prog wl = .ok v' w3 ∧
      (Instr.mapUpdate 90 (.map (some b)) (.int .i64 l.frm) v').run Try.prog w3 = .ok () w4 ∧
      LegMap lo b No w4 (L ++ [l]) ∧ (∀ B, B ≤ lo → B ≤ b → Below B w w3 ∧ Below B w w4) ∧ (∀ q, q < w.heap.size → (q < lo ∧ q ≠ b) ∨ (No q ∧ q ≠ b) → w3.heap[q]? = w.heap[q]? ∧ w4.heap[q]? = w.heap[q]?) := by
  obtain ⟨h1, n, f, p, hn, hm, hr, hap, hno⟩ := h
  have K := int_keyed Try.underlying3
  have hkey := keyOf_int_mk Try.underlying3 hs
  obtain ⟨i, hi, hz0, hz1, hz2⟩ := info_parts infoLeg
  have hb := hm.lt
  have hsl := hbel.size
  have hle := legsAt_len L l.frm
  obtain ⟨v', w3, hrun, hown, hg, -, hloc⟩ := run_append_own_at (P := Try.prog) (w := wl) lo 30 30 62 i _ 5 40 Try.underlying30 hi hz0 hz1 hz2 rfl (by decide) _ _ _ (own_later (hr l.frm) hbel) ⟨g0, 0, none⟩ 1 1 (legC [l]) rfl
    hcell (legC_cells [l]) (by unfold maxLen; omega) (by omega) (by omega)
  have hm3 : HdrMap Try.prog 3 (.slice none 0 0) b n f p w3 := (hm.later hbel).kept hg (fun e => by have := ((hr l.frm).lt b e.symm).1; omega)
  obtain ⟨w4, hrun4, hm4, hg4⟩ := hm3.put K Try.underlying90 (by unfold maxLen; omega) hkey (v := v')
  have hsz3 := hg.size
  have hsz4 := hg4.size
  have hsame : updF f (Lit.int .i64 l.frm) v' (iLit l.frm) = v' := updF_same f _ v'
  have hoth : ∀ s : Int, s ≠ l.frm → updF f (Lit.int .i64 l.frm) v' (iLit s) = f (iLit s) := fun s e => updF_other f v' (fun e' => e (iLit_inj _ _ e'))
  -- where the new row lies
  have hloc' : ∀ g, v'.ownBlock = some g → (f (iLit l.frm)).ownBlock = some g ∨ w.heap.size ≤ g := fun g hg' => by
    rcases hloc with e | e
    · exact .inl (by rw [← e]; exact hg')
    · rw [e] at hg'; simp at hg'; exact .inr (by omega)
  refine ⟨_, v', w3, w4, fun W hW => (hm.later hW).look K Try.underlying90 zeroLegS hkey, hrun, hrun4, ⟨h1, n + 1, _, _, by simp; omega, hm4, fun s => ?_, fun s s' hss => ?_, fun s g hg' hN => ?_⟩, fun B hB hBb => ?_, fun q hq hqc => ?_⟩
  · by_cases e : s = l.frm
    · subst e
      rw [hsame, legsAt_snoc, if_pos rfl, legC_append, List.length_append]
      refine hown.kept hg4 ?_
      cases hv : v'.ownBlock with
      | none => exact .inl rfl
      | some g =>
        refine .inr fun e => ?_
        have := (hown.lt g hv).1
        simp at e; omega
    · rw [hoth s e, legsAt_snoc, if_neg (fun e' => e e'.symm)]
      refine ((own_later (hr s) hbel).kept hg (hap s l.frm e)).kept hg4 ?_
      cases hv : (f (iLit s)).ownBlock with
      | none => exact .inl rfl
      | some g =>
        refine .inr fun e => ?_
        have := ((hr s).lt g hv).1
        simp at e; omega
  · -- apart
    have key : ∀ s : Int, s ≠ l.frm → (f (iLit s)).ownBlock = none ∨ (f (iLit s)).ownBlock ≠ v'.ownBlock := fun s e => by
      cases hv : (f (iLit s)).ownBlock with
      | none => exact .inl rfl
      | some g =>
        refine .inr fun e' => ?_
        rcases hloc' g e'.symm with h2 | h2
        · rcases hap s l.frm e with h3 | h3
          · rw [hv] at h3; cases h3
          · rw [hv, h2] at h3; exact h3 rfl
        · have := ((hr s).lt g hv).2; omega
    by_cases e : s = l.frm
    · subst e
      rw [hsame, hoth s' (fun e => hss e.symm)]
      rcases key s' (fun e => hss e.symm) with h2 | h2
      · cases hv : v'.ownBlock with
        | none => exact .inl rfl
        | some g => rw [h2]; exact .inr (by simp)
      · exact .inr (fun e => h2 e.symm)
    · rw [hoth s e]
      by_cases e2 : s' = l.frm
      · subst e2
        rw [hsame]
        exact key s e
      · rw [hoth s' e2]
        exact hap s s' hss
  · by_cases e : s = l.frm
    · subst e
      rw [hsame] at hg'
      rcases hloc' g hg' with h2 | h2
      · exact hno l.frm g h2 hN
      · have := hNo g hN; omega
    · rw [hoth s e] at hg'
      exact hno s g hg' hN
  · have b1 : Below B w wl := hbel.mono (by omega)
    have b3 : Below B w w3 := b1.grown hg (by omega) (fun g hg' => by have := ((hr l.frm).lt g hg').1; omega)
    exact ⟨b3, b3.grown hg4 (by omega) (fun g hg' => by simp at hg'; omega)⟩
  · have hne : q ≠ b := by rcases hqc with h | h <;> exact h.2
    have e1 : wl.heap[q]? = w.heap[q]? := hbel.block q hq
    have e3 : w3.heap[q]? = w.heap[q]? := by
      rw [hg.block q (by omega) (fun e => ?_), e1]
      rcases hqc with h | h
      · have := ((hr l.frm).lt q e.symm).1; omega
      · exact hno l.frm q e.symm h.1
    exact ⟨e3, by rw [hg4.block q (by omega) (by simp; omega), e3]⟩
end Go.Proofs.Ytmcpafflnccfaaa

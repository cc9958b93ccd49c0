/-
  Strings appended to a row of strings of the call's own; strings of a row joined by spaces.
-/
import Derived.Test.YtffcgblionlhhaaStepRun
import Derived.Test.YtffcgblionlhhaaMa
import Derived.Test.YtffcgblionlhhaaJnP
import Derived.Test.YtffcgblionlhhaaShelf
namespace Go.Proofs.Ytffcgblionlhhaa
open Go.RowKit
set_option linter.unusedVariables false

theorem run_append_strs (w : World) (B n : Nat) (v : Value) (xs ys : List ByteArray) (hown : w.ownsRow B 9 1 v n (strs xs)) (b c m : Nat) (hm : ys.length = m) (h0 : 0 < m) (hb : ∀ j u, (strs ys)[j]? = some u → w.cell? ⟨b, j, none⟩ = some u) (hn : n + m ≤ 1048576) (hB : B ≤ w.heap.size) :
    ∃ g' c' w', (Builtin.append_ #[26, 26] 26 #[v, .slice (some ⟨b, 0, none⟩) m c]).run Try.prog w = .ok (.slice (some ⟨g', 0, none⟩) (n + m) c') w' ∧
      w'.ownsRow B 9 1 (.slice (some ⟨g', 0, none⟩) (n + m) c') (n + m) (strs (xs ++ ys)) ∧ w.grownBy w' v.ownBlock ∧ (v.ownBlock = some g' ∨ g' = w.heap.size) ∧ g' < w'.heap.size := by
  obtain ⟨i, hi, hz0, hz1, hz2⟩ := info_parts infoString
  subst hm
  obtain ⟨g', c', w', h1, h2, h3, h4, h5⟩ := run_append_lies (P := Try.prog) w 26 26 B 9 i (.string ⟨#[]⟩) 1 16 Try.underlying26 hi hz0 hz1 hz2 rfl (by decide) _ _ _ hown ⟨b, 0, none⟩ ys.length c (strs ys) (by rw [strs_len]; omega) (fun j u hu => by rw [addr_add, Nat.zero_add]; exact hb j u hu)
    (fun u hu => by simp only [strs, List.mem_map] at hu; obtain ⟨x, _, rfl⟩ := hu; rfl) h0 (by unfold maxLen; omega) (by omega) hB _ rfl
  exact ⟨g', c', w', h1, by unfold strs at *; rw [List.map_append]; exact h2, h3, h4, h5⟩

theorem joinSp_any (w : World) (v : Value) (xs : List ByteArray) (hr : RowAt w v (strs xs)) (hne : xs ≠ []) (hn : xs.length ≤ 1048576) (hl : (jnL 32 xs).length ≤ 1048576) :
    Calls Try.prog 102 #[v, .string ⟨#[32]⟩] w fun e w' => e = .returned (.string ⟨(jnL 32 xs).toArray⟩) ∧ Below w.heap.size w w' := by
  obtain ⟨a, cc, rfl, hc, hm, hcell⟩ := strs_open hr
  have hcell := hcell.out
  have hpos := List.length_pos_iff.2 hne
  obtain ⟨b, off, rfl, hbl, _⟩ := hcell 0 hpos
  exact Try.strings_Join b off cc xs ⟨#[32]⟩ w (fun j x hj => by
    obtain ⟨hj1, rfl⟩ := List.getElem?_eq_some_iff.1 hj
    obtain ⟨b', off', he, _, h⟩ := hcell j hj1
    obtain ⟨rfl, rfl⟩ : b = b' ∧ off = off' := by simpa using he
    exact h) hbl (by omega) hc (by show (jnL 32 xs).length ≤ _; omega)
end Go.Proofs.Ytffcgblionlhhaa

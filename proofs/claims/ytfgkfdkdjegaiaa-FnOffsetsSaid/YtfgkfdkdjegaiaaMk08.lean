/-
  JOINED TEXTS, each under its own namespace line: Set, ImplGood.
-/
import Derived.WalkKit
import Derived.Maps.Own
import Derived.Maps.Views
import Derived.Test.YtfgkfdkdjegaiaaGood
import Derived.StringKeys
namespace Go.Proofs.Ytfgkfdkdjegaiaa
open Go.RowKit Go.Maps

def memB {α : Type} [DecidableEq α] (x : α) (S : List α) : Bool := decide (x ∈ S)
theorem memB_yes {α : Type} [DecidableEq α] {x : α} {S : List α} (h : x ∈ S) : memB x S = true := decide_eq_true h
theorem memB_no {α : Type} [DecidableEq α] {x : α} {S : List α} (h : x ∉ S) : memB x S = false := decide_eq_false h

def SetOf {α : Type} [DecidableEq α] (P : Program) (k e : TypeId) (lit : α → Lit) (b : Nat) (S : List α) (w : World) : Prop :=
  ∃ D : DataW Unit, w.ownsMap P k (plainElem P e) b S.length D ∧ IsMap D ∧ (∀ x, D.atKey (lit x) (.lit (.bool false)) = .lit (.bool (memB x S))) ∧ ∀ x, has D (lit x) = memB x S

section
variable {α : Type} [DecidableEq α] {P : Program} {k e t : TypeId} {lit : α → Lit} {b : Nat} {S : List α} {w : World}

theorem SetOf.made (w : World) (P : Program) (k e : TypeId) (lit : α → Lit) : SetOf P k e lit w.heap.size [] (w.alloc (.map #[] 0)) :=
  ⟨.map [], World.ownsMap_made w P k _, isMap_empty, fun x => by simp [DataW.atKey, memB], fun x => by simp [has, memB]⟩

theorem SetOf.lt (h : SetOf P k e lit b S w) : b < w.heap.size := by obtain ⟨_, h, _⟩ := h; exact h.lt
theorem SetOf.kept {w' : World} {row : Option Nat} (h : SetOf P k e lit b S w) (hg : w.grownBy w' row) (hne : some b ≠ row) : SetOf P k e lit b S w' := by
  obtain ⟨D, h1, h2, h3⟩ := h; exact ⟨D, h1.kept hg hne, h2, h3⟩
theorem SetOf.block {w' : World} (h : SetOf P k e lit b S w) (hb : w'.heap[b]? = w.heap[b]?) : SetOf P k e lit b S w' := by
  obtain ⟨D, ⟨es, cl, g1, g2, g3, g4⟩, h2, h3⟩ := h; exact ⟨D, ⟨es, cl, hb.trans g1, g2, g3, g4⟩, h2, h3⟩

theorem SetOf.look (h : SetOf P k e lit b S w) (K : Keyed P k) (ht : P.underlying t = some (.map k e)) (he : P.underlying e = some .bool) (hz : (zeroValue e).run P w = .ok (.bool false) w)
    {key : Value} {x : α} (hkey : keyOf P k key = some (lit x)) : (Instr.lookup t (.map (some b)) key false).run P w = .ok (.bool (memB x S)) w := by
  obtain ⟨D, h1, _, h3⟩ := h
  obtain ⟨v, ps, hrun, hv⟩ := h1.lookup K ht hz (plainElem_bool he false) hkey
  rw [h3.1] at hv
  have hv' : v = .bool (memB x S) := by
    unfold plainElem at hv
    rw [he] at hv
    cases v <;> simp at hv
    rw [hv.1]
  rw [hrun, hv']

theorem SetOf.put (h : SetOf P k e lit b S w) (K : Keyed P k) (ht : P.underlying t = some (.map k e)) (he : P.underlying e = some .bool) (hinj : ∀ x y, lit x = lit y → x = y) (hn : S.length < maxLen)
    {key : Value} {x : α} (hkey : keyOf P k key = some (lit x)) : ∃ w', (Instr.mapUpdate t (.map (some b)) key (.bool true)).run P w = .ok () w' ∧ SetOf P k e lit b (S ++ [x]) w' ∧ w.grownBy w' (some b) := by
  obtain ⟨D, h1, h2, h3⟩ := h
  obtain ⟨w', hrun, hown, hg⟩ := h1.update K ht hn hkey (plainElem_bool he true)
  refine ⟨w', hrun, ⟨_, by simpa using hown, h2.put _ _, fun y => ?_, fun y => ?_⟩, hg⟩
  · by_cases hxy : y = x
    · subst hxy
      rw [atKey_put_same h2 (K.key hkey)]; simp [memB]
    · rw [atKey_put_other (fun e => hxy (hinj _ _ e)), h3.1]; simp [hxy, memB]
  · by_cases hxy : y = x
    · subst hxy
      rw [has_put_same h2 (K.key hkey)]; simp [memB]
    · rw [has_put_other (fun e => hxy (hinj _ _ e)), h3.2]; simp [hxy, memB]
end

def sLit (s : ByteArray) : Lit := .string s.data.toList
def iLit (n : Int) : Lit := .int .i64 n
theorem sLit_inj (x y : ByteArray) (h : sLit x = sLit y) : x = y := by
  cases x; cases y; simp [sLit] at h; rw [h]
theorem iLit_inj (x y : Int) (h : iLit x = iLit y) : x = y := by simpa [iLit] using h
end Go.Proofs.Ytfgkfdkdjegaiaa

namespace Go.Proofs.Ytfgkfdkdjegaiaa
open Go.RowKit Go.Maps
set_option linter.unusedVariables false

theorem low_of {c : Int} (h : c < 97 ∨ 122 < c) (s : UInt8) (hs : (s.toNat : Int) = c) : lowB s = false := by
  rw [Bool.eq_false_iff]; intro g; rw [lowB_iff] at g; omega
theorem dig_of {c : Int} (h : c < 48 ∨ 57 < c) (s : UInt8) (hs : (s.toNat : Int) = c) : digB s = false := by
  rw [Bool.eq_false_iff]; intro g; rw [digB_iff] at g; omega

theorem isName_any (s : ByteArray) (w : World) (hs : s.size ≤ maxLen) :
    Calls Try.prog 111 #[.string s] w fun e w' => e = .returned (.bool (nameB s)) ∧ w = w' := by
  unfold maxLen at hs
  by_cases hsz : 1 ≤ s.size ∧ s.size ≤ 8
  · obtain ⟨g1, g2⟩ := hsz
    go_enter Try.func111, Try.ntmps111
    go_wp2
    go_loop [16] (fun i => ∃ k : Nat, k ≤ s.size ∧ i = .int .i64 k ∧ Hid (NameTo s k)) (fun i => s.size - (RowKit.intOf i).toNat)
    case atStart => exact ⟨0, Nat.zero_le _, rfl, fun j hj h => by omega⟩
    case round =>
      obtain ⟨k, hk, rfl, HT⟩ := hrel
      by_cases hlt : k < s.size
      · have HB := Lib.hid (byte_ways (s[k].toNat : Int))
        by_cases hk0 : k = 0
        · subst hk0
          rcases HB.out with hb | ⟨hb, hb'⟩ | ⟨hb, hb'⟩ | ⟨hb, hb'⟩ | hb
          all_goals clear HB
          · have HN : Hid (¬ NameOk s) := no_name 0 hlt (low_of (by omega) _ rfl) (.inl rfl)
            have d0 : decide (97 ≤ (s[0].toNat : Int)) = false := decide_eq_false (by omega)
            have d1 : decide ((s[0].toNat : Int) ≤ 122) = true := decide_eq_true (by omega)
            have d2 : decide (48 ≤ (s[0].toNat : Int)) = false := decide_eq_false (by omega)
            have d3 : decide ((s[0].toNat : Int) ≤ 57) = true := decide_eq_true (by omega)
            go_wp2
            go_ret
            exact ⟨by rw [nameB_no HN.out]; rfl, rfl⟩
          · have HN : Hid (¬ NameOk s) := no_name 0 hlt (low_of (by omega) _ rfl) (.inl rfl)
            have d0 : decide (97 ≤ (s[0].toNat : Int)) = false := decide_eq_false (by omega)
            have d1 : decide ((s[0].toNat : Int) ≤ 122) = true := decide_eq_true (by omega)
            have d2 : decide (48 ≤ (s[0].toNat : Int)) = true := decide_eq_true (by omega)
            have d3 : decide ((s[0].toNat : Int) ≤ 57) = true := decide_eq_true (by omega)
            go_wp2
            go_ret
            exact ⟨by rw [nameB_no HN.out]; rfl, rfl⟩
          · have HN : Hid (¬ NameOk s) := no_name 0 hlt (low_of (by omega) _ rfl) (.inl rfl)
            have d0 : decide (97 ≤ (s[0].toNat : Int)) = false := decide_eq_false (by omega)
            have d1 : decide ((s[0].toNat : Int) ≤ 122) = true := decide_eq_true (by omega)
            have d2 : decide (48 ≤ (s[0].toNat : Int)) = true := decide_eq_true (by omega)
            have d3 : decide ((s[0].toNat : Int) ≤ 57) = false := decide_eq_false (by omega)
            go_wp2
            go_ret
            exact ⟨by rw [nameB_no HN.out]; rfl, rfl⟩
          · have HN : Hid (NameTo s (0 + 1)) := nameTo_succ hlt HT.out (.inl ((lowB_iff _).2 ⟨hb, hb'⟩))
            have d0 : decide (97 ≤ (s[0].toNat : Int)) = true := decide_eq_true (by omega)
            have d1 : decide ((s[0].toNat : Int) ≤ 122) = true := decide_eq_true (by omega)
            have d2 : decide (48 ≤ (s[0].toNat : Int)) = true := decide_eq_true (by omega)
            have d3 : decide ((s[0].toNat : Int) ≤ 57) = false := decide_eq_false (by omega)
            go_wp2
            all_goals exact ⟨⟨0 + 1, by omega, by go_num, HN⟩, by simp [RowKit.intOf]; omega⟩
          · have HN : Hid (¬ NameOk s) := no_name 0 hlt (low_of (by omega) _ rfl) (.inl rfl)
            have d0 : decide (97 ≤ (s[0].toNat : Int)) = true := decide_eq_true (by omega)
            have d1 : decide ((s[0].toNat : Int) ≤ 122) = false := decide_eq_false (by omega)
            have d2 : decide (48 ≤ (s[0].toNat : Int)) = true := decide_eq_true (by omega)
            have d3 : decide ((s[0].toNat : Int) ≤ 57) = false := decide_eq_false (by omega)
            go_wp2
            go_ret
            exact ⟨by rw [nameB_no HN.out]; rfl, rfl⟩
        · have hk1 : ((k : Int) == 0) = false := by rw [beq_eq_false_iff_ne]; omega
          have HK := Lib.hid hk0
          clear hk0
          rcases HB.out with hb | ⟨hb, hb'⟩ | ⟨hb, hb'⟩ | ⟨hb, hb'⟩ | hb
          all_goals clear HB
          · have HN : Hid (¬ NameOk s) := no_name k hlt (low_of (by omega) _ rfl) (.inr (dig_of (by omega) _ rfl))
            have d0 : decide (97 ≤ (s[k].toNat : Int)) = false := decide_eq_false (by omega)
            have d1 : decide ((s[k].toNat : Int) ≤ 122) = true := decide_eq_true (by omega)
            have d2 : decide (48 ≤ (s[k].toNat : Int)) = false := decide_eq_false (by omega)
            have d3 : decide ((s[k].toNat : Int) ≤ 57) = true := decide_eq_true (by omega)
            go_wp2
            go_ret
            exact ⟨by rw [nameB_no HN.out]; rfl, rfl⟩
          · have HN : Hid (NameTo s (k + 1)) := nameTo_succ hlt HT.out (.inr ⟨HK.out, (digB_iff _).2 ⟨hb, hb'⟩⟩)
            have d0 : decide (97 ≤ (s[k].toNat : Int)) = false := decide_eq_false (by omega)
            have d1 : decide ((s[k].toNat : Int) ≤ 122) = true := decide_eq_true (by omega)
            have d2 : decide (48 ≤ (s[k].toNat : Int)) = true := decide_eq_true (by omega)
            have d3 : decide ((s[k].toNat : Int) ≤ 57) = true := decide_eq_true (by omega)
            go_wp2
            all_goals exact ⟨⟨k + 1, by omega, by go_num, HN⟩, by simp [RowKit.intOf]; omega⟩
          · have HN : Hid (¬ NameOk s) := no_name k hlt (low_of (by omega) _ rfl) (.inr (dig_of (by omega) _ rfl))
            have d0 : decide (97 ≤ (s[k].toNat : Int)) = false := decide_eq_false (by omega)
            have d1 : decide ((s[k].toNat : Int) ≤ 122) = true := decide_eq_true (by omega)
            have d2 : decide (48 ≤ (s[k].toNat : Int)) = true := decide_eq_true (by omega)
            have d3 : decide ((s[k].toNat : Int) ≤ 57) = false := decide_eq_false (by omega)
            go_wp2
            go_ret
            exact ⟨by rw [nameB_no HN.out]; rfl, rfl⟩
          · have HN : Hid (NameTo s (k + 1)) := nameTo_succ hlt HT.out (.inl ((lowB_iff _).2 ⟨hb, hb'⟩))
            have d0 : decide (97 ≤ (s[k].toNat : Int)) = true := decide_eq_true (by omega)
            have d1 : decide ((s[k].toNat : Int) ≤ 122) = true := decide_eq_true (by omega)
            have d2 : decide (48 ≤ (s[k].toNat : Int)) = true := decide_eq_true (by omega)
            have d3 : decide ((s[k].toNat : Int) ≤ 57) = false := decide_eq_false (by omega)
            go_wp2
            all_goals exact ⟨⟨k + 1, by omega, by go_num, HN⟩, by simp [RowKit.intOf]; omega⟩
          · have HN : Hid (¬ NameOk s) := no_name k hlt (low_of (by omega) _ rfl) (.inr (dig_of (by omega) _ rfl))
            have d0 : decide (97 ≤ (s[k].toNat : Int)) = true := decide_eq_true (by omega)
            have d1 : decide ((s[k].toNat : Int) ≤ 122) = false := decide_eq_false (by omega)
            have d2 : decide (48 ≤ (s[k].toNat : Int)) = true := decide_eq_true (by omega)
            have d3 : decide ((s[k].toNat : Int) ≤ 57) = false := decide_eq_false (by omega)
            go_wp2
            go_ret
            exact ⟨by rw [nameB_no HN.out]; rfl, rfl⟩
      · have HN : Hid (NameOk s) := ⟨g1, g2, fun j hj => HT.out j hj (by omega)⟩
        go_wp2
        go_ret
        exact ⟨by rw [nameB_yes HN.out]; rfl, rfl⟩
  · have HN : Hid (¬ NameOk s) := fun h => hsz ⟨h.1, h.2.1⟩
    by_cases h1 : s.size < 1
    · clear hsz
      go_enter Try.func111, Try.ntmps111
      go_wp2
      go_ret
      exact ⟨by rw [nameB_no HN.out]; rfl, rfl⟩
    · have h2 : 8 < s.size := by omega
      clear hsz
      go_enter Try.func111, Try.ntmps111
      go_wp2
      go_ret
      exact ⟨by rw [nameB_no HN.out]; rfl, rfl⟩

def NameSet (b : Nat) (S : List ByteArray) (w : World) : Prop := SetOf Try.prog 9 4 sLit b S w
def IntSet (b : Nat) (S : List Int) (w : World) : Prop := SetOf Try.prog 3 4 iLit b S w
theorem zeroBool (W : World) : (zeroValue 4).run Try.prog W = .ok (.bool false) W := by kernel_rfl
theorem keyS {s : ByteArray} (hs : s.size ≤ maxLen) : keyOf Try.prog 9 (.string s) = some (sLit s) := WideMaps.keyOf_string_mk Try.underlying9 hs
theorem keyI {n : Int} (hn : (Lit.int .i64 n).wf = true) : keyOf Try.prog 3 (.int .i64 n) = some (iLit n) := keyOf_int_mk Try.underlying3 hn
theorem NameSet.look {b : Nat} {S : List ByteArray} {w : World} (h : NameSet b S w) {s : ByteArray} (hs : s.size ≤ maxLen) : (Instr.lookup 111 (.map (some b)) (.string s) false).run Try.prog w = .ok (.bool (memB s S)) w :=
  SetOf.look h (string_keyed Try.underlying9) Try.underlying111 Try.underlying4 (zeroBool w) (keyS hs)
theorem NameSet.put {b : Nat} {S : List ByteArray} {w : World} (h : NameSet b S w) {s : ByteArray} (hs : s.size ≤ maxLen) (hn : S.length < maxLen) : ∃ w', (Instr.mapUpdate 111 (.map (some b)) (.string s) (.bool true)).run Try.prog w = .ok () w' ∧ NameSet b (S ++ [s]) w' ∧ w.grownBy w' (some b) :=
  SetOf.put h (string_keyed Try.underlying9) Try.underlying111 Try.underlying4 sLit_inj hn (keyS hs)
theorem IntSet.look {b : Nat} {S : List Int} {w : World} (h : IntSet b S w) {n : Int} (hs : (Lit.int .i64 n).wf = true) : (Instr.lookup 125 (.map (some b)) (.int .i64 n) false).run Try.prog w = .ok (.bool (memB n S)) w :=
  SetOf.look h (int_keyed Try.underlying3) Try.underlying125 Try.underlying4 (zeroBool w) (keyI hs)
theorem IntSet.put {b : Nat} {S : List Int} {w : World} (h : IntSet b S w) {n : Int} (hs : (Lit.int .i64 n).wf = true) (hn : S.length < maxLen) : ∃ w', (Instr.mapUpdate 125 (.map (some b)) (.int .i64 n) (.bool true)).run Try.prog w = .ok () w' ∧ IntSet b (S ++ [n]) w' ∧ w.grownBy w' (some b) :=
  SetOf.put h (int_keyed Try.underlying3) Try.underlying125 Try.underlying4 iLit_inj hn (keyI hs)

theorem takeName_no (b : Nat) (S : List ByteArray) (s : ByteArray) (w : World) (hs : s.size ≤ maxLen) (h : NameSet b S w) (hno : ¬ NameOk s ∨ s ∈ S) :
    Calls Try.prog 94 #[.map (some b), .string s] w fun e w' => e = .returned (.bool false) ∧ w = w' := by
  have HN := Lib.hid (fun W => isName_any s W hs)
  by_cases hnm : NameOk s
  · have hin : s ∈ S := by rcases hno with h | h; exact absurd hnm h; exact h
    have hl := h.look hs
    rw [memB_yes hin] at hl
    rw [nameB_yes hnm] at HN
    clear hno hnm hin h
    go_enter Try.func94, Try.ntmps94
    go_wp2_with (go_at_call 111; refine (HN.out _).mono ?_; rintro e w' ⟨rfl, rfl⟩)
    go_ret
    exact ⟨rfl, rfl⟩
  · rw [nameB_no hnm] at HN
    clear hno hnm h
    go_enter Try.func94, Try.ntmps94
    go_wp2_with (go_at_call 111; refine (HN.out _).mono ?_; rintro e w' ⟨rfl, rfl⟩)
    go_ret
    exact ⟨rfl, rfl⟩
theorem takeName_yes (b : Nat) (S : List ByteArray) (s : ByteArray) (w : World) (hs : s.size ≤ maxLen) (h : NameSet b S w) (hnm : NameOk s) (hin : s ∉ S) (hn : S.length < maxLen) :
    Calls Try.prog 94 #[.map (some b), .string s] w fun e w' => e = .returned (.bool true) ∧ NameSet b (S ++ [s]) w' ∧ w.grownBy w' (some b) := by
  have HN := Lib.hid (fun W => isName_any s W hs)
  have hl := h.look hs
  rw [memB_no hin] at hl
  rw [nameB_yes hnm] at HN
  obtain ⟨w1, hput, hs1, hg1⟩ := h.put hs hn
  have HS := Lib.hid hs1
  have HG := Lib.hid hg1
  clear hnm hin h hs1 hg1
  go_enter Try.func94, Try.ntmps94
  go_wp2_with (go_at_call 111; refine (HN.out _).mono ?_; rintro e w' ⟨rfl, rfl⟩)
  go_ret
  exact ⟨rfl, HS.out, HG.out⟩
end Go.Proofs.Ytfgkfdkdjegaiaa

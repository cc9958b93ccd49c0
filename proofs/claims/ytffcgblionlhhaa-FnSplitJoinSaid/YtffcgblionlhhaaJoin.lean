/-
  CONTRACTS: spec.JoinStrings and impl.JoinStrings return the strings joined by one byte where that is allowed, else the empty string and false; what was in memory stays as it was.
-/
import Derived.Test.YtffcgblionlhhaaMa
import Derived.Test.YtffcgblionlhhaaStands
import Derived.Test.YtffcgblionlhhaaShelf
import Derived.Lib.Join
import Derived.Lib.IndexAny
namespace Go.Proofs.Ytffcgblionlhhaa
open Go.RowKit
open Go.Lib
set_option linter.unusedVariables false

def jn (c : UInt8) (xs : List ByteArray) : List UInt8 := Lib.join (xs.map (·.data.toList)) [c]
theorem jn_nil (c : UInt8) : jn c [] = [] := rfl
theorem jn_one (c : UInt8) (x : ByteArray) : jn c [x] = x.data.toList := by simp [jn, Lib.join, List.intercalate]
theorem jn_cons (c : UInt8) (x y : ByteArray) (xs : List ByteArray) : jn c (x :: y :: xs) = x.data.toList ++ [c] ++ jn c (y :: xs) := by
  simp [jn, Lib.join, List.intercalate]
theorem jn_snoc (c : UInt8) : ∀ (xs : List ByteArray) (x : ByteArray), xs ≠ [] → jn c (xs ++ [x]) = jn c xs ++ [c] ++ x.data.toList
  | [], _, h => absurd rfl h
  | [y], x, _ => by rw [List.cons_append, List.nil_append, jn_cons, jn_one, jn_one]
  | y :: z :: r, x, _ => by
    rw [List.cons_append, List.cons_append, jn_cons, ← List.cons_append, jn_snoc c (z :: r) x (by simp), jn_cons]
    simp
theorem jn_len (c : UInt8) (xs : List ByteArray) (h : xs ≠ []) : (jn c xs).length + 1 = sumSz xs + xs.length := by
  rcases List.eq_nil_or_concat xs with rfl | ⟨t, x, rfl⟩
  · exact absurd rfl h
  · rw [List.concat_eq_append]
    have hx := length_list x
    by_cases ht : t = []
    · subst ht; rw [List.nil_append, jn_one]; simp [sumSz, hx]
    · have ih := jn_len c t ht
      rw [jn_snoc c t x ht]
      simp only [List.length_append, List.length_cons, List.length_nil, sumSz, List.map_append, List.sum_append, List.map_cons, List.map_nil, List.sum_cons, List.sum_nil] at *
      omega
termination_by xs.length
decreasing_by simp_all

/-- may the strings be joined? -/
def Joins (c : UInt8) (xs : List ByteArray) : Prop := xs ≠ [] ∧ (∀ x ∈ xs, c ∉ x.data.toList) ∧ (jn c xs).length ≤ 4000
theorem jn_take_le (c : UInt8) (xs : List ByteArray) (k : Nat) (hk : 0 < k) (h : xs ≠ []) : (jn c (xs.take k)).length ≤ (jn c xs).length := by
  have h1 : xs.take k ≠ [] := by
    intro e; rw [List.take_eq_nil_iff] at e
    rcases e with e | e
    · omega
    · exact h e
  have := jn_len c _ h1; have := jn_len c xs h; have := sumSz_le xs k; have := List.length_take_le k xs; have := List.length_take_le' k xs
  omega
theorem jn_take_succ (c : UInt8) (xs : List ByteArray) (k : Nat) (hk : k < xs.length) (h0 : 0 < k) : jn c (xs.take (k + 1)) = jn c (xs.take k) ++ [c] ++ (xs[k]'hk).data.toList := by
  rw [List.take_succ_eq_append_getElem hk, jn_snoc]
  intro e; rw [List.take_eq_nil_iff] at e
  rcases e with e | e
  · omega
  · subst e; simp at hk
theorem jn_take_one (c : UInt8) (xs : List ByteArray) (hk : 0 < xs.length) : jn c (xs.take 1) = (xs[0]'hk).data.toList := by
  cases xs with
  | nil => simp at hk
  | cons x r => simp [jn_one]

theorem sep_one (sep : ByteArray) (h : sep.size = 1) : ∃ c : UInt8, sep = ⟨#[c]⟩ := by
  have hl := length_list sep
  rw [h] at hl
  match hd : sep.data.toList, hl with
  | [c], _ => exact ⟨c, by rw [eq_mk sep, hd]⟩

theorem specJoin_badsep (v : Value) (xs : List ByteArray) (sep : ByteArray) (w : World) (hr : RowAt w v (xs.map .string)) (h : sep.size ≠ 1 ∨ xs = []) :
    Calls Try.prog 21 #[v, .string sep] w fun e w' => e = .returned (.tuple #[.string ⟨#[]⟩, .bool false]) ∧ w = w' := by
  obtain ⟨a, c, rfl, hc, hm, hcell⟩ := hr
  rw [List.length_map]
  clear hcell hc hm
  by_cases h1 : sep.size = 1
  · have h2 : xs = [] := by rcases h with h | h; exact absurd h1 h; exact h
    subst h2
    have e1 : ((sep.size : Int) != 1) = false := by simp [h1]
    clear h h1
    go_enter Try.func21, Try.ntmps21
    go_wp2_with fail
    go_ret2
    exact ⟨rfl, rfl⟩
  · have e1 : ((sep.size : Int) != 1) = true := by rw [bne_iff_ne]; omega
    clear h h1
    go_enter Try.func21, Try.ntmps21
    go_wp2_with fail
    go_ret2
    exact ⟨rfl, rfl⟩

/-- what the model's loop knows at k -/
def JAt (c : UInt8) (xs : List ByteArray) (k : Nat) (s : ByteArray) : Prop := s.data.toList = jn c (xs.take k) ∧ s.size ≤ 4000 ∧ ∀ x ∈ xs.take k, c ∉ x.data.toList

set_option maxHeartbeats 2000000 in
theorem specJoin_any (v : Value) (xs : List ByteArray) (c : UInt8) (w : World) (hr : RowAt w v (xs.map .string)) (hn : xs.length ≤ 1048576) (hx : ∀ x ∈ xs, x.size ≤ 1048576) (hne : xs ≠ []) :
    (Joins c xs → Calls Try.prog 21 #[v, .string ⟨#[c]⟩] w fun e w' => e = .returned (.tuple #[.string ⟨(jn c xs).toArray⟩, .bool true]) ∧ Dr w w') ∧
    (¬ Joins c xs → Calls Try.prog 21 #[v, .string ⟨#[c]⟩] w fun e w' => e = .returned (.tuple #[.string ⟨#[]⟩, .bool false]) ∧ Dr w w') := by
  have key : Calls Try.prog 21 #[v, .string ⟨#[c]⟩] w fun e w' => ((Joins c xs ∧ e = .returned (.tuple #[.string ⟨(jn c xs).toArray⟩, .bool true])) ∨ (¬ Joins c xs ∧ e = .returned (.tuple #[.string ⟨#[]⟩, .bool false]))) ∧ Dr w w' := by
    obtain ⟨a, cc, rfl, hc, hm, hcell⟩ := hr
    rw [List.length_map] at *
    have HC := Lib.hid hcell
    clear hcell
    have hlen : ((xs.length : Int) == 0) = false := by rw [beq_eq_false_iff_ne]; have := List.length_pos_iff.2 hne; omega
    go_enter Try.func21, Try.ntmps21
    go_wp2_with fail
    go_loopw [6, 7] (fun o i wr => ∃ k : Nat, k ≤ xs.length ∧ i = .int .i64 k ∧ (∃ s : ByteArray, o = .string s ∧ JAt c xs k s) ∧ Dr w wr)
      (fun _ i _ => xs.length - (RowKit.intOf i).toNat)
    case atStart => exact ⟨0, Nat.zero_le _, rfl, ⟨_, rfl, rfl, by decide, by simp⟩, Dr.refl w⟩
    case round =>
      obtain ⟨k, hk, rfl, ⟨s, rfl, hj⟩, hd⟩ := hrel
      by_cases hlt : k < xs.length
      · obtain ⟨b, off, rfl, _, hcx0⟩ := str_at HC.out k hlt
        have hcx : wr.cell? ⟨b, off + k, none⟩ = some (.string xs[k]) := by rw [hd.cell]; exact hcx0
        clear hcx0
        have hk1 : (k : Int) < (xs.length : Int) := by omega
        have hxs := hx _ (List.getElem_mem hlt)
        have HS := Lib.hid (fun W => l1Stands_any xs[k] c W (by unfold maxLen; omega))
        have hle := jn_take_le c xs (k + 1) (by omega) hne
        obtain ⟨s2, hs2⟩ : ∃ s2 : ByteArray, s2 = ⟨(jn c (xs.take (k + 1))).toArray⟩ := ⟨_, rfl⟩
        have hs2l : s2.size = (jn c (xs.take (k + 1))).length := by rw [hs2, size_mk]
        have hs2d : s2.data.toList = jn c (xs.take (k + 1)) := by rw [hs2]
        obtain ⟨hj1, hj2, hj3⟩ := hj
        have hsl := length_list s
        have hyl := length_list xs[k]
        by_cases hmem : c ∈ xs[k].data.toList
        · have HNO : Hid (¬ Joins c xs) := fun g => g.2.1 _ (List.getElem_mem hlt) hmem
          rw [hasB_yes hmem] at HS
          clear hs2 hs2l hs2d hj1 hj2 hj3 hsl hyl hmem hle
          generalize xs[k] = y at *
          go_wp2_with fail
          go_quiet ((go_at_call 103; exact quietL (HS.out _)))
          go_wp2_with fail
          go_ret2
          exact ⟨.inr ⟨HNO.out, rfl⟩, hd.step _⟩
        · rw [hasB_no hmem] at HS
          have hj3' : ∀ x ∈ xs.take (k + 1), c ∉ x.data.toList := by
            intro x hxm
            rw [List.take_succ_eq_append_getElem hlt] at hxm
            rcases List.mem_append.1 hxm with h | h
            · exact hj3 x h
            · have : x = xs[k] := by simpa using h
              rw [this]; exact hmem
          by_cases h0 : k = 0
          · have hs0 : s.data.toList = [] := by rw [hj1, h0]; rfl
            have e2 : jn c (xs.take (k + 1)) = xs[k].data.toList := by subst h0; exact jn_take_one c xs hlt
            have hadd : ∀ W, (Op.stringOp .add s xs[k]).run Try.prog W = .ok (.string s2) W := fun W => by
              rw [hs2, e2]; exact str_add W _ _ [] _ hs0 rfl (by simp; omega)
            have hk0 : ¬ (0 < (k : Int)) := by omega
            by_cases hbig : 4000 < s2.size
            · have HNO : Hid (¬ Joins c xs) := fun g => by have := g.2.2; omega
              clear hs2 hs2l hs2d hj1 hj2 hj3 hj3' hsl hyl hmem hle hs0 e2 h0
              generalize xs[k] = y at *
              go_wp2_with fail
              go_quiet ((go_at_call 103; exact quietL (HS.out _)))
              go_wp2_with fail
              go_ret2
              exact ⟨.inr ⟨HNO.out, rfl⟩, hd.step _⟩
            · have HJ : Hid (JAt c xs (k + 1) s2) := ⟨hs2d, by omega, hj3'⟩
              clear hs2 hs2l hs2d hj1 hj2 hj3 hj3' hsl hyl hmem hle hs0 e2 h0
              generalize xs[k] = y at *
              go_wp2_with fail
              go_quiet ((go_at_call 103; exact quietL (HS.out _)))
              go_wp2_with fail
              go_roundw
              case rel => exact ⟨k + 1, by omega, by go_num, ⟨_, rfl, HJ.out⟩, hd.step _⟩
              case measure => simp [RowKit.intOf]; omega
          · have e2 := jn_take_succ c xs k hlt (by omega)
            have hadd1 : ∀ W, (Op.stringOp .add s ⟨#[c]⟩).run Try.prog W = .ok (.string ⟨(jn c (xs.take k) ++ [c]).toArray⟩) W := fun W => str_add W _ _ _ [c] hj1 rfl (by rw [← hj1]; simp; omega)
            have hadd2 : ∀ W, (Op.stringOp .add ⟨(jn c (xs.take k) ++ [c]).toArray⟩ xs[k]).run Try.prog W = .ok (.string s2) W := fun W => by
              rw [hs2, e2]; exact str_add W _ _ (jn c (xs.take k) ++ [c]) _ (by simp) rfl (by rw [List.length_append, ← hj1]; simp; omega)
            have hk0 : 0 < (k : Int) := by omega
            by_cases hbig : 4000 < s2.size
            · have HNO : Hid (¬ Joins c xs) := fun g => by have := g.2.2; omega
              clear hs2 hs2l hs2d hj1 hj2 hj3 hj3' hsl hyl hmem hle e2 h0
              generalize ByteArray.mk (jn c (xs.take k) ++ [c]).toArray = s1 at *
              generalize xs[k] = y at *
              go_wp2_with fail
              go_quiet ((go_at_call 103; exact quietL (HS.out _)))
              go_wp2_with fail
              go_ret2
              exact ⟨.inr ⟨HNO.out, rfl⟩, hd.step _⟩
            · have HJ : Hid (JAt c xs (k + 1) s2) := ⟨hs2d, by omega, hj3'⟩
              clear hs2 hs2l hs2d hj1 hj2 hj3 hj3' hsl hyl hmem hle e2 h0
              generalize ByteArray.mk (jn c (xs.take k) ++ [c]).toArray = s1 at *
              generalize xs[k] = y at *
              go_wp2_with fail
              go_quiet ((go_at_call 103; exact quietL (HS.out _)))
              go_wp2_with fail
              go_roundw
              case rel => exact ⟨k + 1, by omega, by go_num, ⟨_, rfl, HJ.out⟩, hd.step _⟩
              case measure => simp [RowKit.intOf]; omega
      · have hall : xs.take k = xs := List.take_of_length_le (by omega)
        obtain ⟨hj1, hj2, hj3⟩ := hj
        rw [hall] at hj1 hj3
        have HJ : Hid (Joins c xs ∧ s = ⟨(jn c xs).toArray⟩) := ⟨⟨hne, hj3, by rw [← hj1, length_list]; exact hj2⟩, by rw [← hj1]⟩
        clear hj1 hj2 hj3 hall
        go_wp2_with fail
        go_ret2
        exact ⟨.inl ⟨HJ.out.1, by rw [← HJ.out.2]; rfl⟩, hd⟩
  exact ⟨fun h => key.mono fun e w' ⟨h1, h2⟩ => ⟨by rcases h1 with ⟨_, h1⟩ | ⟨h1, _⟩; exact h1; exact absurd h h1, h2⟩, fun h => key.mono fun e w' ⟨h1, h2⟩ => ⟨by rcases h1 with ⟨h1, _⟩ | ⟨_, h1⟩; exact absurd h1 h; exact h1, h2⟩⟩

theorem containsByte (s : ByteArray) (c : UInt8) (w : World) :
    Calls Try.prog 101 #[.string s, .string ⟨#[c]⟩] w fun e w' => e = .returned (.bool (hasB c s.data.toList)) ∧ w = w' :=
  (Try.strings_Contains_one s c w).mono fun e w' ⟨he, hw⟩ => ⟨by rw [he, ← contains_iff_indexByte, hasB, List.contains_eq_mem], hw.symm⟩

theorem implJoin_badsep (v : Value) (xs : List ByteArray) (sep : ByteArray) (w : World) (hr : RowAt w v (xs.map .string)) (h : sep.size ≠ 1 ∨ xs = []) :
    Calls Try.prog 20 #[v, .string sep] w fun e w' => e = .returned (.tuple #[.string ⟨#[]⟩, .bool false]) ∧ w = w' := by
  obtain ⟨a, c, rfl, hc, hm, hcell⟩ := hr
  rw [List.length_map]
  clear hcell hc hm
  by_cases h2 : xs = []
  · subst h2
    clear h
    go_enter Try.func20, Try.ntmps20
    go_wp2_with fail
    go_ret2
    exact ⟨rfl, rfl⟩
  · have h1 : sep.size ≠ 1 := by rcases h with h | h; exact h; exact absurd h h2
    have hlen : ((xs.length : Int) == 0) = false := by rw [beq_eq_false_iff_ne]; have := List.length_pos_iff.2 h2; omega
    have e1 : ((sep.size : Int) != 1) = true := by rw [bne_iff_ne]; omega
    clear h h1 h2
    go_enter Try.func20, Try.ntmps20
    go_wp2_with fail
    go_ret2
    exact ⟨rfl, rfl⟩

theorem sumSz_bd (xs : List ByteArray) (k : Nat) (hk : k < xs.length) : sumSz (xs.take k) + (xs[k]'hk).size ≤ sumSz xs := by
  rw [← sumSz_take xs k hk]; exact sumSz_le xs (k + 1)

set_option maxHeartbeats 2000000 in
theorem implJoin_any (v : Value) (xs : List ByteArray) (c : UInt8) (w : World) (hr : RowAt w v (xs.map .string)) (hn : xs.length + sumSz xs ≤ 1048576) (hne : xs ≠ []) :
    (Joins c xs → Calls Try.prog 20 #[v, .string ⟨#[c]⟩] w fun e w' => e = .returned (.tuple #[.string ⟨(jn c xs).toArray⟩, .bool true]) ∧ Below w.heap.size w w') ∧
    (¬ Joins c xs → Calls Try.prog 20 #[v, .string ⟨#[c]⟩] w fun e w' => e = .returned (.tuple #[.string ⟨#[]⟩, .bool false]) ∧ Below w.heap.size w w') := by
  have key : Calls Try.prog 20 #[v, .string ⟨#[c]⟩] w fun e w' => ((Joins c xs ∧ e = .returned (.tuple #[.string ⟨(jn c xs).toArray⟩, .bool true])) ∨ (¬ Joins c xs ∧ e = .returned (.tuple #[.string ⟨#[]⟩, .bool false]))) ∧ Below w.heap.size w w' := by
    obtain ⟨a, cc, rfl, hc, hm, hcell⟩ := hr
    rw [List.length_map] at *
    have hpos := List.length_pos_iff.2 hne
    have hjl := jn_len c xs hne
    have HJL := Lib.hid hjl
    have hjlen : (jn c (xs)).length ≤ 140737488355328 := by omega
    obtain ⟨b, off, rfl, hbl, _⟩ := str_at hcell 0 hpos
    have HJoin := Lib.hid (Try.strings_Join b off cc xs ⟨#[c]⟩ w (fun j x hj => by
      obtain ⟨b', off', he, _, h⟩ := hcell j (.string x) (by simp [hj])
      obtain ⟨rfl, rfl⟩ : b = b' ∧ off = off' := by simpa using he
      exact h) hbl (by omega) hc hjlen)
    have HC := Lib.hid hcell
    have hlen : ((xs.length : Int) == 0) = false := by rw [beq_eq_false_iff_ne]; omega
    clear hcell hjl hjlen
    go_enter Try.func20, Try.ntmps20
    go_wp2_with fail
    go_loop [6, 22] (fun z i => ∃ k : Nat, k ≤ xs.length ∧ i = .int .i64 k ∧ (∃ q : Nat, z = .int .i64 q ∧ Hid (q + 1 = xs.length + sumSz (xs.take k)) ∧ q ≤ 1048576) ∧ Hid (∀ x ∈ xs.take k, c ∉ x.data.toList) ∧ Hid (0 < k → xs.length + sumSz (xs.take k) ≤ 4001))
      (fun _ i => xs.length - (RowKit.intOf i).toNat)
    case atStart =>
      exact ⟨0, Nat.zero_le _, rfl, ⟨xs.length - 1, by go_num, by show _ = _; simp [sumSz]; omega, by omega⟩, by intro x hx; simp at hx, by intro h; omega⟩
    case round =>
      obtain ⟨k, hk, rfl, ⟨q, rfl, HQ, hq⟩, HN, HB⟩ := hrel
      by_cases hlt : k < xs.length
      · obtain ⟨b', off', he', _, hcx⟩ := str_at HC.out k hlt
        obtain ⟨rfl, rfl⟩ : b = b' ∧ off = off' := by simpa using he'
        clear he'
        have hb1 := sumSz_bd xs k hlt
        have ht1 := sumSz_take xs k hlt
        have hle1 := sumSz_le xs (k + 1)
        have hq1 := HQ.out
        have hys : q + xs[k].size ≤ 1048576 := by omega
        by_cases hbig : 4000 < q + xs[k].size
        · have HNO : Hid (¬ Joins c xs) := fun g => by have := g.2.2; have := HJL.out; omega
          clear hb1 ht1 hle1 hq1
          generalize xs[k] = y at *
          go_wp2_with fail
          go_ret2
          exact ⟨.inr ⟨HNO.out, rfl⟩, Below.refl _ _⟩
        · have HS := Lib.hid (containsByte xs[k] c w)
          by_cases hmem : c ∈ xs[k].data.toList
          · have HNO : Hid (¬ Joins c xs) := fun g => g.2.1 _ (List.getElem_mem hlt) hmem
            rw [hasB_yes hmem] at HS
            clear hb1 ht1 hle1 hq1 hmem
            generalize xs[k] = y at *
            go_wp2_with (go_at_call 101; refine HS.out.mono ?_; rintro e w' ⟨rfl, rfl⟩)
            go_ret2
            exact ⟨.inr ⟨HNO.out, rfl⟩, Below.refl _ _⟩
          · rw [hasB_no hmem] at HS
            have HN2 : Hid (∀ x ∈ xs.take (k + 1), c ∉ x.data.toList) := by
              intro x hxm
              rw [List.take_succ_eq_append_getElem hlt] at hxm
              rcases List.mem_append.1 hxm with h | h
              · exact HN.out x h
              · have : x = xs[k] := by simpa using h
                rw [this]; exact hmem
            have HQ2 : Hid (q + xs[k].size + 1 = xs.length + sumSz (xs.take (k + 1))) := by show _ = _; omega
            have HB2 : Hid (0 < k + 1 → xs.length + sumSz (xs.take (k + 1)) ≤ 4001) := by intro _; omega
            clear hb1 ht1 hle1 hq1 hmem
            generalize xs[k] = y at *
            go_wp2_with (go_at_call 101; refine HS.out.mono ?_; rintro e w' ⟨rfl, rfl⟩)
            go_round
            case rel => exact ⟨k + 1, by omega, by go_num, ⟨q + y.size, by go_num, HQ2, by omega⟩, HN2, HB2⟩
            case measure => simp [RowKit.intOf]; omega
      · have hall : xs.take k = xs := List.take_of_length_le (by omega)
        have HJ : Hid (Joins c xs) := by
          have h1 := HN.out; have h2 := HB.out (by omega); have h3 := HJL.out
          rw [hall] at h1 h2
          exact ⟨hne, h1, by omega⟩
        clear hall
        go_wp2_with (go_at_call 102; refine HJoin.out.mono ?_; rintro e w' ⟨rfl, hb⟩)
        go_ret2
        exact ⟨.inl ⟨HJ.out, rfl⟩, hb⟩
  exact ⟨fun h => key.mono fun e w' ⟨h1, h2⟩ => ⟨by rcases h1 with ⟨_, h1⟩ | ⟨h1, _⟩; exact h1; exact absurd h h1, h2⟩, fun h => key.mono fun e w' ⟨h1, h2⟩ => ⟨by rcases h1 with ⟨h1, _⟩ | ⟨_, h1⟩; exact absurd h1 h; exact h1, h2⟩⟩
end Go.Proofs.Ytffcgblionlhhaa

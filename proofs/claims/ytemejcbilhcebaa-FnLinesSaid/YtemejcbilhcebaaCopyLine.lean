import Derived.Test.YtemejcbilhcebaaMk18
import Derived.Laws.CopyOwn
import Derived.RegionTactic
import Derived.BigRegion
import Derived.Deep.DeepCutAuto
import Derived.Deep.OwnRows
namespace Go.Proofs.Ytemejcbilhcebaa
open Go.RowKit
set_option linter.unusedVariables false
set_option linter.unusedSimpArgs false

theorem own_block_mk {w : World} {B : Nat} {e : TypeId} {sz : Nat} {g n : Nat} {xs : List Value} (hB : B ≤ g) (hh : w.heap[g]? = some (.cells xs.toArray e (0, 0))) (hn : n ≤ maxLen) (hl : xs.length = n * sz) : w.ownsRow B e sz (.slice (some ⟨g, 0, none⟩) n n) n xs :=
  ⟨hl, .inr ⟨g, n, xs.toArray, rfl, hB, hh, Nat.le_refl _, hn, by simpa using hl, by rw [List.take_of_length_le (by simp; omega)]⟩⟩
theorem copy_all (cur cs : List Value) (h : cs.length = cur.length) : (cur.take 0 ++ (cs ++ cur.drop (0 + cs.length))) = cs := by
  rw [List.take_zero, Nat.zero_add, h, List.drop_length]; simp
theorem setRow_size (w : World) (g : Nat) (cs : Array Value) : (w.setRow g cs).heap.size = w.heap.size := by simp [World.setRow]
theorem apart_step2 {W w1 : World} {g k B : Nat} {z0 z1 z2 nm sv rv : Value} {g1 g2 : Nat} (h : RowsApart W g k) (hl : ∀ j, j < k → ∃ l, LineOwn B W g (j * 3) l) (hb : Below W.heap.size W w1) (hg : g < W.heap.size)
    (q0 : w1.cell? ⟨g, k * 3, none⟩ = some z0) (q1 : w1.cell? ⟨g, k * 3 + 1, none⟩ = some z1) (q2 : w1.cell? ⟨g, k * 3 + 2, none⟩ = some z2) (es : sv.ownBlock = some g1) (er : rv.ownBlock = some g2) (b1 : W.heap.size ≤ g1) (b2 : W.heap.size ≤ g2) (h12 : g1 ≠ g2) :
    RowsApart (((w1.setCell ⟨g, k * 3, none⟩ nm).setCell ⟨g, k * 3 + 1, none⟩ sv).setCell ⟨g, k * 3 + 2, none⟩ rv) g (k + 1) := by
  have val : ∀ j i v, j < k + 1 → (i = 1 ∨ i = 2) → (((w1.setCell ⟨g, k * 3, none⟩ nm).setCell ⟨g, k * 3 + 1, none⟩ sv).setCell ⟨g, k * 3 + 2, none⟩ rv).cell? ⟨g, j * 3 + i, none⟩ = some v →
      (j < k ∧ W.cell? ⟨g, j * 3 + i, none⟩ = some v ∧ ∀ b, v.ownBlock = some b → b < W.heap.size) ∨ (j = k ∧ i = 1 ∧ v.ownBlock = some g1) ∨ (j = k ∧ i = 2 ∧ v.ownBlock = some g2) := by
    intro j i v hj hi hc
    by_cases hjk : j < k
    · rw [set_other (by omega), set_other (by omega), set_other (by omega), hb.cell (p := ⟨g, j * 3 + i, none⟩) hg] at hc
      refine .inl ⟨hjk, hc, fun b hvb => ?_⟩
      obtain ⟨l, s, r, c0, c1, c2, r1, r2, _⟩ := hl j hjk
      rcases hi with rfl | rfl
      · rw [c1] at hc; cases hc; exact (r1.lt b hvb).2
      · rw [c2] at hc; cases hc; exact (r2.lt b hvb).2
    · have : j = k := by omega
      subst this
      rcases hi with rfl | rfl
      · rw [set_other (by omega)] at hc
        rw [set_same (z := z1) ((set_other (by omega)).trans q1)] at hc
        cases hc; exact .inr (.inl ⟨rfl, rfl, es⟩)
      · rw [set_same (z := z2) ((set_other (by omega)).trans ((set_other (by omega)).trans q2))] at hc
        cases hc; exact .inr (.inr ⟨rfl, rfl, er⟩)
  intro j i j' i' v v' hj hj' hi hi' hne hc hc'
  rcases val j i v hj hi hc with ⟨a1, a2, a3⟩ | ⟨rfl, rfl, a3⟩ | ⟨rfl, rfl, a3⟩ <;> rcases val j' i' v' hj' hi' hc' with ⟨d1, d2, d3⟩ | ⟨e1, rfl, d3⟩ | ⟨e1, rfl, d3⟩
  · exact h j i j' i' v v' a1 d1 hi hi' hne a2 d2
  · rw [d3]; by_cases hv : v.ownBlock = none
    · exact .inl hv
    · exact .inr fun e => by have := a3 g1 e; omega
  · rw [d3]; by_cases hv : v.ownBlock = none
    · exact .inl hv
    · exact .inr fun e => by have := a3 g2 e; omega
  · rw [a3]; exact .inr fun e => by have := d3 g1 e.symm; omega
  · omega
  · rw [a3, d3]; exact .inr fun e => h12 (by simpa using e)
  · rw [a3]; exact .inr fun e => by have := d3 g2 e.symm; omega
  · rw [a3, d3]; exact .inr fun e => h12 (by simpa using e.symm)
  · omega

theorem heap5 (w : World) (a b c d e : Obj) : (((((w.alloc a).alloc b).alloc c).alloc d).alloc e).drew.heap[w.heap.size]? = some a ∧ (((((w.alloc a).alloc b).alloc c).alloc d).alloc e).drew.heap[w.heap.size + 1]? = some b ∧
    (((((w.alloc a).alloc b).alloc c).alloc d).alloc e).drew.heap[w.heap.size + 1 + 1]? = some c ∧ (((((w.alloc a).alloc b).alloc c).alloc d).alloc e).drew.heap[w.heap.size + 1 + 1 + 1]? = some d ∧ (((((w.alloc a).alloc b).alloc c).alloc d).alloc e).drew.heap[w.heap.size + 1 + 1 + 1 + 1]? = some e := by
  show (((((w.heap.push a).push b).push c).push d).push e)[w.heap.size]? = _ ∧ (((((w.heap.push a).push b).push c).push d).push e)[w.heap.size + 1]? = _ ∧ (((((w.heap.push a).push b).push c).push d).push e)[w.heap.size + 1 + 1]? = _ ∧ (((((w.heap.push a).push b).push c).push d).push e)[w.heap.size + 1 + 1 + 1]? = _ ∧ (((((w.heap.push a).push b).push c).push d).push e)[w.heap.size + 1 + 1 + 1 + 1]? = _
  refine ⟨?_, ?_, ?_, ?_, ?_⟩
  · rw [Array.getElem?_push, if_neg (by simp only [Array.size_push]; omega)]; rw [Array.getElem?_push, if_neg (by simp only [Array.size_push]; omega)]; rw [Array.getElem?_push, if_neg (by simp only [Array.size_push]; omega)]; rw [Array.getElem?_push, if_neg (by simp only [Array.size_push]; omega)]; rw [Array.getElem?_push, if_pos (by simp only [Array.size_push]; try omega)]
  · rw [Array.getElem?_push, if_neg (by simp only [Array.size_push]; omega)]; rw [Array.getElem?_push, if_neg (by simp only [Array.size_push]; omega)]; rw [Array.getElem?_push, if_neg (by simp only [Array.size_push]; omega)]; rw [Array.getElem?_push, if_pos (by simp only [Array.size_push]; try omega)]
  · rw [Array.getElem?_push, if_neg (by simp only [Array.size_push]; omega)]; rw [Array.getElem?_push, if_neg (by simp only [Array.size_push]; omega)]; rw [Array.getElem?_push, if_pos (by simp only [Array.size_push]; try omega)]
  · rw [Array.getElem?_push, if_neg (by simp only [Array.size_push]; omega)]; rw [Array.getElem?_push, if_pos (by simp only [Array.size_push]; try omega)]
  · rw [Array.getElem?_push, if_pos (by simp only [Array.size_push]; try omega)]
theorem below5 (w : World) (a b c d e : Obj) : Below w.heap.size w (((((w.alloc a).alloc b).alloc c).alloc d).alloc e).drew :=
  ((((((Below.refl _ _).alloc (Nat.le_refl _) _).alloc (by simp) _).alloc (by simp <;> omega) _).alloc (by simp <;> omega) _).alloc (by simp <;> omega) _).drew

def CopyBox (w : World) (o0 o1 oc r1 r2 : Obj) (c g1 g2 : Nat) (wx : World) : Prop :=
  wx.heap[w.heap.size]? = some o0 ∧ wx.heap[w.heap.size + 1]? = some o1 ∧ wx.heap[c]? = some oc ∧ wx.heap[g1]? = some r1 ∧ wx.heap[g2]? = some r2 ∧ (c ≠ g1 ∧ c ≠ g2 ∧ g1 ≠ g2) ∧ (w.heap.size + 2 ≤ c ∧ w.heap.size + 2 ≤ g1 ∧ w.heap.size + 2 ≤ g2) ∧ Below w.heap.size w wx
theorem cb012 (w : World) (a b c d e : Obj) : CopyBox w a b c d e (w.heap.size + 1 + 1) (w.heap.size + 1 + 1 + 1) (w.heap.size + 1 + 1 + 1 + 1) (((((w.alloc a).alloc b).alloc c).alloc d).alloc e).drew := by
  obtain ⟨h0, h1, h2, h3, h4⟩ := heap5 w a b c d e; exact ⟨h0, h1, h2, h3, h4, by omega, by omega, below5 ..⟩
theorem cb021 (w : World) (a b c d e : Obj) : CopyBox w a b c e d (w.heap.size + 1 + 1) (w.heap.size + 1 + 1 + 1 + 1) (w.heap.size + 1 + 1 + 1) (((((w.alloc a).alloc b).alloc c).alloc d).alloc e).drew := by
  obtain ⟨h0, h1, h2, h3, h4⟩ := heap5 w a b c d e; exact ⟨h0, h1, h2, h4, h3, by omega, by omega, below5 ..⟩
theorem cb102 (w : World) (a b c d e : Obj) : CopyBox w a b d c e (w.heap.size + 1 + 1 + 1) (w.heap.size + 1 + 1) (w.heap.size + 1 + 1 + 1 + 1) (((((w.alloc a).alloc b).alloc c).alloc d).alloc e).drew := by
  obtain ⟨h0, h1, h2, h3, h4⟩ := heap5 w a b c d e; exact ⟨h0, h1, h3, h2, h4, by omega, by omega, below5 ..⟩
theorem cb120 (w : World) (a b c d e : Obj) : CopyBox w a b d e c (w.heap.size + 1 + 1 + 1) (w.heap.size + 1 + 1 + 1 + 1) (w.heap.size + 1 + 1) (((((w.alloc a).alloc b).alloc c).alloc d).alloc e).drew := by
  obtain ⟨h0, h1, h2, h3, h4⟩ := heap5 w a b c d e; exact ⟨h0, h1, h3, h4, h2, by omega, by omega, below5 ..⟩
theorem cb201 (w : World) (a b c d e : Obj) : CopyBox w a b e c d (w.heap.size + 1 + 1 + 1 + 1) (w.heap.size + 1 + 1) (w.heap.size + 1 + 1 + 1) (((((w.alloc a).alloc b).alloc c).alloc d).alloc e).drew := by
  obtain ⟨h0, h1, h2, h3, h4⟩ := heap5 w a b c d e; exact ⟨h0, h1, h4, h2, h3, by omega, by omega, below5 ..⟩
theorem cb210 (w : World) (a b c d e : Obj) : CopyBox w a b e d c (w.heap.size + 1 + 1 + 1 + 1) (w.heap.size + 1 + 1 + 1) (w.heap.size + 1 + 1) (((((w.alloc a).alloc b).alloc c).alloc d).alloc e).drew := by
  obtain ⟨h0, h1, h2, h3, h4⟩ := heap5 w a b c d e; exact ⟨h0, h1, h4, h3, h2, by omega, by omega, below5 ..⟩

theorem wpList_copy_fresh {P : Program} {w : World} {ops : Array Oper} {rest : List Oper} {o : Oper} {a : Act} {Q : Exit → Act → World → Prop} (hgd : o.guard = none) (d s : Operand) (dT sT : TypeId)
    (ho : o.op = .call { callee := .builtin .copy, args := #[d, s], argTypes := #[dT, sT] }) (elem : TypeId) (hu : P.underlying dT = some (.slice elem)) (hsz : (P.info? elem).map (·.size) = some 1)
    (g n dCap : Nat) (ad : Addr) (sCap : Nat) (hd : a.eval d = .slice (some ⟨g, 0, none⟩) n dCap) (hs : a.eval s = .slice (some ad) n sCap)
    (cur : Array Value) (t : TypeId) (hg : w.heap[g]? = some (.cells cur t (0, 0))) (cs : List Value) (hn : cs.length = n) (hcur : cur.size = n)
    (hsrc : ∀ j v, cs[j]? = some v → w.cell? (ad.add j) = some v) (h1 : ∀ v ∈ cs, v.oneCell' = true)
    (h : ∀ w' : World, w'.heap[g]? = some (.cells cs.toArray t (0, 0)) → (∀ q, q ≠ g → w'.heap[q]? = w.heap[q]?) → w'.heap.size = w.heap.size → (∀ B w0, Below B w0 w → B ≤ g → Below B w0 w') → wpList P ops Q rest (a.put o.dst (goInt n)) w') :
    wpList P ops Q (o :: rest) a w := by
  subst hn
  refine wpList_copy_own hgd d s dT sT ho elem hu hsz g 0 cs.length dCap ad cs.length sCap hd hs cur t hg cs (by simp) hsrc (by omega) h1 ?_
  rw [copy_all cur.toList cs (by simpa using hcur.symm)]
  exact h _ (setRow_heap w g cur _ t _ hg) (fun q hq => setRow_other w g q _ hq) (setRow_size w g _) (fun B w0 hb hB => below_setRow hb hB _)
theorem cell_heap {w : World} {g o : Nat} {cs : Array Value} {e : TypeId} {u : Value} (h : w.heap[g]? = some (.cells cs e (0, 0))) (hu : cs[o]? = some u) : w.cell? ⟨g, o, none⟩ = some u := by
  simp only [World.cell?, h]; simpa using hu

set_option maxRecDepth 100000 in
set_option maxHeartbeats 4000000 in
theorem copyLine_any (v : Value) (l : LineD) (w : World) (hr : LineV w v l) (hs1 : 1 ≤ l.stops.length) (hs2 : l.stops.length ≤ 1048576) (hr1 : 1 ≤ l.runs.length) (hr2 : l.runs.length ≤ 1048576) :
    Calls Try.prog 46 #[v] w fun e w' => ∃ g1 g2, e = .returned (.agg #[.string l.name, .slice (some ⟨g1, 0, none⟩) l.stops.length l.stops.length, .slice (some ⟨g2, 0, none⟩) l.runs.length l.runs.length]) ∧
      w'.ownsRow w.heap.size 3 1 (.slice (some ⟨g1, 0, none⟩) l.stops.length l.stops.length) l.stops.length (ints l.stops) ∧ w'.ownsRow w.heap.size 3 1 (.slice (some ⟨g2, 0, none⟩) l.runs.length l.runs.length) l.runs.length (ints l.runs) ∧ g1 ≠ g2 ∧ Below w.heap.size w w' := by
  obtain ⟨sv, rv, rfl, hs, hrr⟩ := hr
  obtain ⟨sa, sc, rfl, hsc, hsm, HS⟩ := ints_open hs
  obtain ⟨ra, rc, rfl, hrc, hrm, HR⟩ := ints_open hrr
  obtain ⟨sb, so, rfl, hsb, -⟩ := HS.out 0 (by omega)
  obtain ⟨rb, ro, rfl, hrb, -⟩ := HR.out 0 (by omega)
  have hmk1 := fun w => run_make_row' (P := Try.prog) 34 3 (.int .i64 0) 8 Try.underlying34 infoInt rfl .i64 .i64 l.stops.length (by omega) (by omega) w
  have hmk2 := fun w => run_make_row' (P := Try.prog) 34 3 (.int .i64 0) 8 Try.underlying34 infoInt rfl .i64 .i64 l.runs.length (by omega) (by omega) w
  have HSr := Lib.hid hs
  have HRr := Lib.hid hrr
  clear hs hrr
  go_enter Try.func46, Try.ntmps46
  go_wp2_with fail
  go_upto_region 1 with fail
  go_cut [3] (fun s3 wx => ∃ cb g1 g2 : Nat, s3 = .pointer (some ⟨cb, 0, none⟩) ∧
    Hid (CopyBox w (.cells #[.string l.name, .slice (some ⟨sb, so, none⟩) l.stops.length sc, .slice (some ⟨rb, ro, none⟩) l.runs.length rc] 36 (0, 0)) (.cells #[.string ByteArray.empty, .slice none 0 0, .slice none 0 0] 36 (0, 0))
      (.cells #[.string l.name, .slice (some ⟨g1, 0, none⟩) l.stops.length l.stops.length, .slice (some ⟨g2, 0, none⟩) l.runs.length l.runs.length] 36 (0, 0)) (.cells (madeCells #[.int .i64 0] l.stops.length) 3 (0, 0)) (.cells (madeCells #[.int .i64 0] l.runs.length) 3 (0, 0)) cb g1 g2 wx))
  case first =>
    go_region
    all_goals go_wp2_with fail
    all_goals go_meet
    all_goals first
      | exact ⟨_, _, _, rfl, cb012 ..⟩
      | exact ⟨_, _, _, rfl, cb021 ..⟩
      | exact ⟨_, _, _, rfl, cb102 ..⟩
      | exact ⟨_, _, _, rfl, cb120 ..⟩
      | exact ⟨_, _, _, rfl, cb201 ..⟩
      | exact ⟨_, _, _, rfl, cb210 ..⟩
  case rest =>
    obtain ⟨cb, g1, g2, rfl, HC⟩ := hcut
    obtain ⟨h0, h1, hc, hg1, hg2, ⟨n1, n2, n3⟩, ⟨m0, m1, m2⟩, hbel⟩ := HC.out
    have c0 : wc.cell? ⟨cb, 0, none⟩ = some (.string l.name) := cell_heap hc rfl
    have c1 : wc.cell? ⟨cb, 1, none⟩ = some (.slice (some ⟨g1, 0, none⟩) l.stops.length l.stops.length) := cell_heap hc rfl
    have c2 : wc.cell? ⟨cb, 2, none⟩ = some (.slice (some ⟨g2, 0, none⟩) l.runs.length l.runs.length) := cell_heap hc rfl
    have b1 : wc.cell? ⟨w.heap.size, 1, none⟩ = some (.slice (some ⟨sb, so, none⟩) l.stops.length sc) := cell_heap h0 rfl
    have b2 : wc.cell? ⟨w.heap.size, 2, none⟩ = some (.slice (some ⟨rb, ro, none⟩) l.runs.length rc) := cell_heap h0 rfl
    go_wp2_with (with_reducible refine wpList_copy_fresh rfl _ _ 34 34 rfl 3 Try.underlying34 (by kernel_rfl) g1 l.stops.length l.stops.length ⟨sb, so, none⟩ sc rfl rfl (madeCells #[.int .i64 0] l.stops.length) 3 hg1 (ints l.stops) (ints_len _) (size_madeCells _ _) ?c1 ?c2 ?_)
    case c1 =>
      intro j u hu
      obtain ⟨_, _, he, _, _, hcell⟩ := HSr.out
      simp [ints_len] at he
      obtain ⟨rfl, rfl⟩ := he
      obtain ⟨b', o', he, hlt, hc'⟩ := hcell j u hu
      simp at he
      obtain ⟨rfl, rfl⟩ := he
      rw [addr_add]
      exact bkeep hbel hc'
    case c2 => intro u hu; obtain ⟨z, _, rfl⟩ := List.mem_map.1 hu; rfl
    intro w3 k1 ko kz kb
    have c0' := (World.cell?_of_block (a := ⟨cb, 0, none⟩) (ko cb n1)).trans c0
    have c1' := (World.cell?_of_block (a := ⟨cb, 1, none⟩) (ko cb n1)).trans c1
    have c2' := (World.cell?_of_block (a := ⟨cb, 2, none⟩) (ko cb n1)).trans c2
    have b2' := (World.cell?_of_block (a := ⟨w.heap.size, 2, none⟩) (ko w.heap.size (by omega))).trans b2
    have hg2' := (ko g2 (fun e => n3 e.symm)).trans hg2
    have hbel' := kb _ _ hbel (by omega)
    have hR1 := (ko (w.heap.size + 1) (by omega)).trans h1
    clear c0 c1 c2 b1 b2 hg1 hg2 hc h0 h1 ko kz kb hbel HC
    go_wp2_with (with_reducible refine wpList_copy_fresh rfl _ _ 34 34 rfl 3 Try.underlying34 (by kernel_rfl) g2 l.runs.length l.runs.length ⟨rb, ro, none⟩ rc rfl rfl (madeCells #[.int .i64 0] l.runs.length) 3 hg2' (ints l.runs) (ints_len _) (size_madeCells _ _) ?c1 ?c2 ?_)
    case c1 =>
      intro j u hu
      obtain ⟨_, _, he, _, _, hcell⟩ := HRr.out
      simp [ints_len] at he
      obtain ⟨rfl, rfl⟩ := he
      obtain ⟨b', o', he, hlt, hc'⟩ := hcell j u hu
      simp at he
      obtain ⟨rfl, rfl⟩ := he
      rw [addr_add]
      exact bkeep hbel' hc'
    case c2 => intro u hu; obtain ⟨z, _, rfl⟩ := List.mem_map.1 hu; rfl
    intro w4 k2 ko kz kb
    have d0 := (World.cell?_of_block (a := ⟨cb, 0, none⟩) (ko cb n2)).trans c0'
    have d1 := (World.cell?_of_block (a := ⟨cb, 1, none⟩) (ko cb n2)).trans c1'
    have d2 := (World.cell?_of_block (a := ⟨cb, 2, none⟩) (ko cb n2)).trans c2'
    have k1' := (ko g1 n3).trans k1
    have hbel2 := kb _ _ hbel' (by omega)
    have hR2 := (ko (w.heap.size + 1) (by omega)).trans hR1
    have r0 : w4.cell? ⟨w.heap.size + 1, 0, none⟩ = some (.string ByteArray.empty) := cell_heap hR2 rfl
    have r1 : w4.cell? ⟨w.heap.size + 1, 1, none⟩ = some (.slice none 0 0) := cell_heap hR2 rfl
    have r2 : w4.cell? ⟨w.heap.size + 1, 2, none⟩ = some (.slice none 0 0) := cell_heap hR2 rfl
    have hfz : ∀ o, w4.frozen? ⟨w.heap.size + 1, o, none⟩ = false := fun o => by simp [World.frozen?, hR2]
    have HF : Hid (w4.ownsRow w.heap.size 3 1 (.slice (some ⟨g1, 0, none⟩) l.stops.length l.stops.length) l.stops.length (ints l.stops) ∧ w4.ownsRow w.heap.size 3 1 (.slice (some ⟨g2, 0, none⟩) l.runs.length l.runs.length) l.runs.length (ints l.runs) ∧ (g1 ≠ g2 ∧ g1 ≠ w.heap.size + 1 ∧ g2 ≠ w.heap.size + 1) ∧ Below w.heap.size w w4) :=
      ⟨own_block_mk (by omega) k1' (by unfold maxLen; omega) (by rw [ints_len]; omega), own_block_mk (by omega) k2 (by unfold maxLen; omega) (by rw [ints_len]; omega), ⟨n3, by omega, by omega⟩, hbel2⟩
    clear c0' c1' c2' b2' hg2' hbel' hR1 k1 k2 k1' ko kz kb hbel2 hR2
    go_wp2_with fail
    refine bodyPost_ret (v := .agg #[.string l.name, .slice (some ⟨g1, 0, none⟩) l.stops.length l.stops.length, .slice (some ⟨g2, 0, none⟩) l.runs.length l.runs.length]) (by simp only [results, Try.results46]; go_simp) rfl ?_
    obtain ⟨o1, o2, ⟨n3, n4, n5⟩, hb⟩ := HF.out
    have e1 : (Value.slice (some ⟨g1, 0, none⟩) l.stops.length l.stops.length).ownBlock ≠ some (w.heap.size + 1) := fun e => n4 (by simpa [Value.ownBlock] using e)
    have e2 : (Value.slice (some ⟨g2, 0, none⟩) l.runs.length l.runs.length).ownBlock ≠ some (w.heap.size + 1) := fun e => n5 (by simpa [Value.ownBlock] using e)
    exact ⟨g1, g2, rfl, own_other (own_other (own_other o1 e1 _) e1 _) e1 _, own_other (own_other (own_other o2 e2 _) e2 _) e2 _, n3, ((hb.setCell (by simp) _).setCell (by simp) _).setCell (by simp) _⟩
end Go.Proofs.Ytemejcbilhcebaa

/-
  What spec.TerminalStops returns: the ends of the lines, entered one after another.
-/
import Derived.Test.YticmghmidnboaaaPut
import Derived.IntWalk
namespace Go.Proofs.Yticmghmidnboaaa
open Go.RowKit
set_option linter.unusedVariables false

/-- the ends of the first k lines -/
def termF (n : NetD) : Nat → List Int
  | 0 => []
  | k + 1 => if h : k < n.lines.length then putL ((n.lines[k]'h).stops.getLast?.getD 0) (putL ((n.lines[k]'h).stops.head?.getD 0) (termF n k)) else termF n k
theorem termF_len (n : NetD) : ∀ k, (termF n k).length ≤ 2 * k
  | 0 => by simp [termF]
  | k + 1 => by
    have ih := termF_len n k
    simp only [termF]
    split
    · have h1 := putL_len ((n.lines[k]'(by assumption)).stops.head?.getD 0) (termF n k)
      have h2 := putL_len ((n.lines[k]'(by assumption)).stops.getLast?.getD 0) (putL ((n.lines[k]'(by assumption)).stops.head?.getD 0) (termF n k))
      omega
    · omega
theorem termF_succ {n : NetD} {k : Nat} (h : k < n.lines.length) (hl : 0 < (n.lines[k]'h).stops.length) : termF n (k + 1) = putL ((n.lines[k]'h).stops[(n.lines[k]'h).stops.length - 1]'(by omega)) (putL ((n.lines[k]'h).stops[0]'hl) (termF n k)) := by
  simp only [termF, dif_pos h]
  rw [List.getLast?_eq_getElem?, List.head?_eq_getElem?, List.getElem?_eq_getElem (by omega), List.getElem?_eq_getElem hl]
  rfl

theorem own_room {w : World} {B : Nat} {e : TypeId} {sz : Nat} {v : Value} {n : Nat} {xs : List Value} (h : w.ownsRow B e sz v n xs) (hv : v.ownBlock ≠ none) : B ≤ w.heap.size := by
  obtain ⟨b, hb⟩ := Option.ne_none_iff_exists'.1 hv
  have := h.lt b hb; omega
def termAns (n : NetD) : List Int := if NetGood n then termF n n.lines.length else []
theorem termAns_yes {n : NetD} (h : NetGood n) : termAns n = termF n n.lines.length := if_pos h
theorem termAns_no {n : NetD} (h : ¬ NetGood n) : termAns n = [] := if_neg h

set_option maxRecDepth 100000 in
set_option maxHeartbeats 4000000 in
theorem specTerminalStops_any (v : Value) (n : NetD) (w : World) (hr : NetAt w v n) (hf : NetFits n) (hs : NetSmall n) :
    Calls Try.prog 58 #[v] w fun e w' => IntsR w.heap.size (termAns n) (netB n) e w' ∧ Below w.heap.size w w' := by
  have HG := Lib.hid (fun W (h : Below w.heap.size w W) => l2Good_any v n W (hr.below rfl h) hf)
  have hsz := hs.2.1
  obtain ⟨a, c, a', c', rfl, hss, hll⟩ := net_open hr
  obtain ⟨_, _, he, _, _, HC⟩ := lines_open hll
  simp at he
  obtain ⟨rfl, rfl⟩ := he
  clear hss hll hr hs hf
  by_cases hg : NetGood n
  · rw [netB_yes hg] at HG
    have HGo := Lib.hid hg
    have hB : Hid (netB n = true) := netB_yes hg
    clear hg
    go_enter Try.func58, Try.ntmps58
    go_wp2_with fail
    go_at_call 74
    refine (HG.out _ (((Below.refl _ _).alloc (Nat.le_refl _) _).alloc (by simp) _)).mono ?_
    rintro e w1 ⟨rfl, hb1⟩
    have HB1 : Hid (Below w.heap.size w w1) := (((Below.refl _ _).alloc (Nat.le_refl _) _).alloc (by simp) _).trans (hb1.mono (by simp; omega))
    have p1 : w1.cell? ⟨w.heap.size, 1, none⟩ = some (.slice a' n.lines.length c') := bkeep hb1 (by go_simp)
    have HO1 : Hid (w1.ownsRow (w.heap.size + 1) 3 1 (.slice (some ⟨w.heap.size + 1, 0, none⟩) 0 0) 0 (ints [])) := by
      have h := own_later (World.ownsRow_lit (base := w.heap.size + 1) (e := 3) (size := 1) (w.alloc (.cells #[.slice a n.stops.length c, .slice a' n.lines.length c'] 36 (0, 0))) #[] 0 (by simp) (by decide) (by simp)) hb1
      show w1.ownsRow _ _ _ _ _ _
      simpa [ints] using h
    have hsz1 : w.heap.size < w1.heap.size := World.block_lt_of_cell? w1 _ p1
    clear hb1
    go_wp2_with fail
    go_loopw [4, 5] (fun o i wr => ∃ k : Nat, k ≤ n.lines.length ∧ i = .int .i64 k ∧ Hid (wr.ownsRow (w.heap.size + 1) 3 1 o (termF n k).length (ints (termF n k)) ∧ o.ownBlock ≠ none) ∧ wr.cell? ⟨w.heap.size, 1, none⟩ = some (.slice a' n.lines.length c') ∧ Below w.heap.size w wr)
      (fun _ i _ => n.lines.length - (RowKit.intOf i).toNat)
    case atStart => exact ⟨0, Nat.zero_le _, rfl, ⟨HO1.out, by simp [Value.ownBlock]⟩, p1, HB1.out⟩
    case round =>
      clear p1
      obtain ⟨k, hk, rfl, HOwn, p1, hbel⟩ := hrel
      by_cases hlt : k < n.lines.length
      · obtain ⟨b, off, rfl, hbl, hla⟩ := HC.out k hlt
        obtain ⟨a1, c1, a2, c2, y0, y1, y2, hlv⟩ := hla.toW
        have hx0 := hbel.cell (p := ⟨b, off + k * 3, none⟩) hbl
        rw [y0] at hx0
        have hx1 := hbel.cell (p := ⟨b, off + k * 3 + 1, none⟩) hbl
        rw [y1] at hx1
        have hx2 := hbel.cell (p := ⟨b, off + k * 3 + 2, none⟩) hbl
        rw [y2] at hx2
        obtain ⟨_, _, hh, hsr, hrr⟩ := hlv
        simp at hh
        obtain ⟨rfl, rfl⟩ := hh
        have hgl := good_line HGo.out k hlt
        have h2 : 2 ≤ n.lines[k].stops.length := hgl.2.1.1
        have h6 : n.lines[k].stops.length ≤ 6 := hgl.2.1.2.1
        have hsw := hsr.below rfl hbel
        obtain ⟨_, _, hh, _, _, HCs⟩ := ints_open hsw
        simp at hh
        obtain ⟨rfl, rfl⟩ := hh
        obtain ⟨sb, so, rfl, hsb, hf0⟩ := HCs.out 0 (by omega)
        obtain ⟨sb', so', he', _, hfl⟩ := HCs.out (n.lines[k].stops.length - 1) (by omega)
        simp at he'
        obtain ⟨rfl, rfl⟩ := he'
        have hll := termF_len n k
        have HTs := Lib.hid (termF_succ hlt (by omega))
        have HBel := Lib.hid hbel
        have hszr : w.heap.size < wr.heap.size := World.block_lt_of_cell? wr _ p1
        have hwr : IntKind.i64.wrap ((n.lines[k].stops.length : Int) - 1) = (n.lines[k].stops.length : Int) - 1 := IntWalk.i64_in _ (by omega)
        clear hla hsr hrr y0 y1 y2 hbel hgl hsw HCs
        have h5 : n.lines.length ≤ 5 := HGo.out.1.2.2.2
        have hix : ((n.lines[k].stops.length : Int) - 1).toNat = n.lines[k].stops.length - 1 := by omega
        have z1 : (wr.alloc (.cells #[.string n.lines[k].name, .slice (some ⟨sb, so, none⟩) n.lines[k].stops.length c1, .slice a2 n.lines[k].runs.length c2] 45 (0, 0))).cell? ⟨wr.heap.size, 1, none⟩ = some (.slice (some ⟨sb, so, none⟩) n.lines[k].stops.length c1) := by go_simp
        rw [Nat.add_zero] at hf0
        have hl3 : (1 : Int) ≤ (n.lines[k].stops.length : Int) := by omega
        have hl4 : 0 < n.lines[k].stops.length := by omega
        have z2 := acell hf0 (.cells #[.string n.lines[k].name, .slice (some ⟨sb, so, none⟩) n.lines[k].stops.length c1, .slice a2 n.lines[k].runs.length c2] 45 (0, 0))
        have z3 := acell hfl (.cells #[.string n.lines[k].name, .slice (some ⟨sb, so, none⟩) n.lines[k].stops.length c1, .slice a2 n.lines[k].runs.length c2] 45 (0, 0))
        have z4 := acell p1 (.cells #[.string n.lines[k].name, .slice (some ⟨sb, so, none⟩) n.lines[k].stops.length c1, .slice a2 n.lines[k].runs.length c2] 45 (0, 0))
        have HZ5 : Hid (w.heap.size + 1 ≤ (wr.alloc (.cells #[.string n.lines[k].name, .slice (some ⟨sb, so, none⟩) n.lines[k].stops.length c1, .slice a2 n.lines[k].runs.length c2] 45 (0, 0))).drew.heap.size) := by show _ ≤ (wr.alloc _).heap.size; simp; omega
        have HPl : Hid ((putL (n.lines[k].stops[0]'(by omega)) (termF n k)).length ≤ 1048576) := by have := putL_len (n.lines[k].stops[0]'(by omega)) (termF n k); show _ ≤ _; omega
        have hl0 : (0 : Int) < (n.lines[k].stops.length : Int) := by omega
        have hl1 : (n.lines[k].stops.length : Int) - 1 < (n.lines[k].stops.length : Int) := by omega
        have hl2 : (0 : Int) ≤ (n.lines[k].stops.length : Int) - 1 := by omega
        go_wp2_with fail
        go_region_held3 (fun w' => w'.cell? ⟨wr.heap.size, 1, none⟩ = some (.slice (some ⟨sb, so, none⟩) n.lines[k].stops.length c1) ∧ w'.cell? ⟨sb, so, none⟩ = some (.int .i64 (n.lines[k].stops[0]'(by omega))) ∧ w'.cell? ⟨sb, so + (n.lines[k].stops.length - 1), none⟩ = some (.int .i64 (n.lines[k].stops[n.lines[k].stops.length - 1]'(by omega))) ∧
            w'.cell? ⟨w.heap.size, 1, none⟩ = some (.slice (some ⟨b, off, none⟩) n.lines.length c') ∧ Below w.heap.size w w')
          (first | (exact ⟨z1, z2, z3, z4, (HBel.out.alloc (by omega) _).drew⟩) | (exact keepX hb (by assumption)))
          (first | (go_at_call 107; ((with_reducible refine (l1Put_own _ _ _ (w.heap.size + 1) _ hown1 hnn1 (own_room hown1 hnn1) HPl.out).mono ?_)); rintro e w' ⟨⟨v2, rfl, hnn2, hown2⟩, hb⟩) | (go_at_call 107; refine (l1Put_own _ (termF n k) _ (w.heap.size + 1) _ (World.ownsRow.drew (HOwn.out.1.alloc (.cells #[.string n.lines[k].name, .slice (some ⟨sb, so, none⟩) n.lines[k].stops.length c1, .slice a2 n.lines[k].runs.length c2] 45 (0, 0)))) HOwn.out.2 HZ5.out (by omega)).mono ?_; rintro e w' ⟨⟨v1, rfl, hnn1, hown1⟩, hb⟩))
        obtain ⟨_, _, _, q1, qb⟩ := (by assumption : _ ∧ _)
        have HR : Hid (w'.ownsRow (w.heap.size + 1) 3 1 v2 (termF n (k + 1)).length (ints (termF n (k + 1))) ∧ v2.ownBlock ≠ none) := by rw [HTs.out]; exact ⟨hown2, hnn2⟩
        have HQ := Lib.hid qb
        clear z1 z2 z3 z4 hown1 hown2 hnn1 hnn2 qb p1 hf0 hfl hx0 hx1 hx2
        go_wp2_with fail
        go_roundw
        case rel => exact ⟨k + 1, by omega, by go_num, HR, q1, HQ.out⟩
        case measure => simp [RowKit.intOf]; omega
      · have HBel := Lib.hid hbel
        have he : k = n.lines.length := by omega
        subst he
        clear hbel
        go_wp2_with fail
        go_ret2
        rw [termAns_yes HGo.out, hB.out]
        exact ⟨⟨_, rfl, own_base HOwn.out.1 (by omega)⟩, HBel.out⟩
  · rw [netB_no hg] at HG
    have HGo := Lib.hid hg
    have hB : Hid (netB n = false) := netB_no hg
    clear hg
    go_enter Try.func58, Try.ntmps58
    go_wp2_with fail
    go_at_call 74
    refine (HG.out _ (((Below.refl _ _).alloc (Nat.le_refl _) _).alloc (by simp) _)).mono ?_
    rintro e w1 ⟨rfl, hb1⟩
    have HB1 : Hid (Below w.heap.size w w1) := (((Below.refl _ _).alloc (Nat.le_refl _) _).alloc (by simp) _).trans (hb1.mono (by simp; omega))
    have HO1 : Hid (w1.ownsRow (w.heap.size + 1) 3 1 (.slice (some ⟨w.heap.size + 1, 0, none⟩) 0 0) 0 (ints [])) := by
      have h := own_later (World.ownsRow_lit (base := w.heap.size + 1) (e := 3) (size := 1) (w.alloc (.cells #[.slice a n.stops.length c, .slice a' n.lines.length c'] 36 (0, 0))) #[] 0 (by simp) (by decide) (by simp)) hb1
      show w1.ownsRow _ _ _ _ _ _
      simpa [ints] using h
    clear hb1
    go_wp2_with fail
    go_ret2
    rw [termAns_no HGo.out, hB.out]
    exact ⟨⟨_, rfl, own_base HO1.out (by omega)⟩, HB1.out⟩
end Go.Proofs.Yticmghmidnboaaa

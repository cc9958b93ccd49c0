/-
  What impl.TerminalStops returns: the keys of the set of the lines' ends, ascending.
-/
import Derived.Test.YticmghmidnboaaaTerminalStops
import Derived.Test.YticmghmidnboaaaAsc
import Derived.Test.YticmghmidnboaaaSorted
import Derived.Maps.Ext
namespace Go.Proofs.Yticmghmidnboaaa
open Go.RowKit Go.Maps
set_option linter.unusedVariables false

theorem asc_nodup {xs : List Int} (h : Asc xs) : xs.Nodup := h.imp (fun h e => by omega)
/-- the keys of a set of numbers in memory, as any ascending list with the same members -/
theorem intSet_keys {b : Nat} {S T : List Int} {w : World} (h : IntSet b S w) (hT : Asc T) (hm : ∀ x, x ∈ T ↔ x ∈ S) : ∃ D : DataW Unit, w.ownsMap Try.prog 3 (plainElem Try.prog 4) b S.length D ∧ T.Perm (intKeys D) ∧ Maps.size D = T.length := by
  obtain ⟨D, hown, him, _, hhas⟩ := h
  have hp : T.Perm (intKeys D) := Go.CollectedI.perm (left := fun _ => false) ⟨asc_nodup hT, fun x => by
    have := hhas x
    rw [iLit] at this
    rw [this, hm x]
    by_cases hx : x ∈ S
    · simp [memB_yes hx, hx]
    · simp [memB_no hx, hx]⟩ hown (int_keyed Try.underlying3) Try.underlying3 (fun _ => rfl)
  refine ⟨D, hown, hp, ?_⟩
  obtain ⟨es, rfl⟩ := him
  have := hp.length_eq
  simp only [intKeys, List.length_map] at this
  rw [size_eq]; omega
theorem mergeSort_asc {ss T : List Int} (hT : Asc T) (hp : ss.Perm T) : ss.mergeSort (fun x y => decide (x ≤ y)) = T := by
  have hs : (ss.mergeSort (fun x y => decide (x ≤ y))).Pairwise (fun x y => decide (x ≤ y) = true) := List.pairwise_mergeSort (by intro a b c h1 h2; simp at *; omega) (by intro a b; simp; omega) ss
  have hpm := (List.mergeSort_perm ss (fun x y => decide (x ≤ y))).trans hp
  have hnd : (ss.mergeSort (fun x y => decide (x ≤ y))).Nodup := hpm.nodup_iff.2 (asc_nodup hT)
  refine asc_ext ?_ hT (fun x => hpm.mem_iff)
  exact (hs.and hnd).imp (fun ⟨h1, h2⟩ => by simp at h1; omega)

/-- the ends of the first k lines, as they are entered -/
def endsF (n : NetD) : Nat → List Int
  | 0 => []
  | k + 1 => if h : k < n.lines.length then (endsF n k ++ [(n.lines[k]'h).stops.head?.getD 0]) ++ [(n.lines[k]'h).stops.getLast?.getD 0] else endsF n k
theorem termF_mem (n : NetD) : ∀ k x, x ∈ termF n k ↔ x ∈ endsF n k
  | 0, x => by simp [termF, endsF]
  | k + 1, x => by
    simp only [termF, endsF]
    split
    · rw [putL_mem, putL_mem, termF_mem n k x]
      simp only [List.mem_append, List.mem_singleton]
      constructor
      · rintro (h | h | h) <;> simp [h]
      · rintro ((h | h) | h) <;> simp [h]
    · exact termF_mem n k x
theorem termF_asc (n : NetD) : ∀ k, Asc (termF n k)
  | 0 => by simp [termF, Asc]
  | k + 1 => by
    simp only [termF]
    split
    · exact putL_asc _ _ (putL_asc _ _ (termF_asc n k))
    · exact termF_asc n k
theorem endsF_len (n : NetD) : ∀ k, (endsF n k).length ≤ 2 * k
  | 0 => by simp [endsF]
  | k + 1 => by
    have := endsF_len n k
    simp only [endsF]
    split
    · simp; omega
    · omega
theorem endsF_succ {n : NetD} {k : Nat} (h : k < n.lines.length) (hl : 0 < (n.lines[k]'h).stops.length) : endsF n (k + 1) = (endsF n k ++ [(n.lines[k]'h).stops[0]'hl]) ++ [(n.lines[k]'h).stops[(n.lines[k]'h).stops.length - 1]'(by omega)] := by
  simp only [endsF, dif_pos h]
  rw [List.getLast?_eq_getElem?, List.head?_eq_getElem?, List.getElem?_eq_getElem hl, List.getElem?_eq_getElem (show (n.lines[k]'h).stops.length - 1 < (n.lines[k]'h).stops.length by omega)]
  rfl

set_option maxRecDepth 100000 in
set_option maxHeartbeats 4000000 in
theorem implTerminalStops_any (v : Value) (n : NetD) (w : World) (hr : NetAt w v n) (hf : NetFits n) (hs : NetSmall n) :
    Calls Try.prog 59 #[v] w fun e w' => IntsR w.heap.size (termAns n) (netB n) e w' ∧ Below w.heap.size w w' := by
  have HG := Lib.hid (fun W (h : Below w.heap.size w W) => implValid_any v n W (hr.below rfl h) hf)
  have HFit := Lib.hid hf
  have hmm := @run_makeMap Try.prog
  have hsz := hs.2.1
  obtain ⟨a, c, a', c', rfl, hss, hll⟩ := net_open hr
  obtain ⟨_, _, he, _, _, HC⟩ := lines_open hll
  simp at he
  obtain ⟨rfl, rfl⟩ := he
  clear hss hll hr hs hf
  by_cases hg : NetGood n
  · rw [netB_yes hg] at HG
    have HGo := Lib.hid hg
    have hB : Hid (netB n = true) := netB_yes hg
    clear hg
    go_enter Try.func59, Try.ntmps59
    go_wp2_with fail
    go_at_call 29
    refine (HG.out _ ((Below.refl _ _).alloc (Nat.le_refl _) _)).mono ?_
    rintro e w1 ⟨rfl, hb1⟩
    have HB1 : Hid (Below w.heap.size w w1) := ((Below.refl _ _).alloc (Nat.le_refl _) _).trans (hb1.mono (by simp))
    have p1 : w1.cell? ⟨w.heap.size, 1, none⟩ = some (.slice a' n.lines.length c') := bkeep hb1 (by go_simp)
    have p1a := acell p1 (.map #[] 0)
    have hsz1 : w.heap.size < w1.heap.size := World.block_lt_of_cell? w1 _ p1
    clear hb1
    go_wp2_with fail
    go_loopw [15] (fun i wr => ∃ k : Nat, k ≤ n.lines.length ∧ i = .int .i64 k ∧ Hid (IntSet w1.heap.size (endsF n k) wr) ∧ Below w.heap.size w wr ∧ w1.heap.size < wr.heap.size)
      (fun i _ => n.lines.length - (RowKit.intOf i).toNat)
    case atStart =>
      refine ⟨0, Nat.zero_le _, rfl, ?_, HB1.out.alloc (by omega) _, by simp⟩
      have := SetOf.made w1 Try.prog 3 4 iLit
      show IntSet _ _ _
      simpa [IntSet, endsF] using this
    case round =>
      clear p1 p1a
      obtain ⟨k, hk, rfl, HSet, hbel, hszr⟩ := hrel
      by_cases hlt : k < n.lines.length
      · obtain ⟨b, off, rfl, hbl, hla⟩ := HC.out k hlt
        obtain ⟨a1, c1, a2, c2, y0, y1, y2, hlv⟩ := hla.toW
        have hx0 := hbel.cell (p := ⟨b, off + k * 3, none⟩) hbl
        rw [y0] at hx0
        have hx1 := hbel.cell (p := ⟨b, off + k * 3 + 1, none⟩) hbl
        rw [y1] at hx1
        have hx2 := hbel.cell (p := ⟨b, off + k * 3 + 2, none⟩) hbl
        rw [y2] at hx2
        obtain ⟨_, _, hh, hsr, hrr⟩ := hlv
        simp at hh
        obtain ⟨rfl, rfl⟩ := hh
        have hgl := good_line HGo.out k hlt
        have h2 : 2 ≤ n.lines[k].stops.length := hgl.2.1.1
        have h6 : n.lines[k].stops.length ≤ 6 := hgl.2.1.2.1
        have hwf := (HFit.out.2 _ (List.getElem_mem hlt)).2.1
        have hsw0 := hsr
        obtain ⟨_, _, hh, _, _, HCs⟩ := ints_open hsr
        simp at hh
        obtain ⟨rfl, rfl⟩ := hh
        obtain ⟨sb, so, rfl, hsb, hf0⟩ := HCs.out 0 (by omega)
        obtain ⟨sb', so', he', _, hfl⟩ := HCs.out (n.lines[k].stops.length - 1) (by omega)
        simp at he'
        obtain ⟨rfl, rfl⟩ := he'
        rw [Nat.add_zero] at hf0
        have hll := endsF_len n k
        have HEs := Lib.hid (endsF_succ hlt (by omega))
        have h5 : n.lines.length ≤ 5 := HGo.out.1.2.2.2
        have HBel := Lib.hid hbel
        have hszw : w.heap.size < wr.heap.size := by have := HBel.out.size; omega
        have hwfF := hwf _ (List.getElem_mem (show 0 < n.lines[k].stops.length by omega))
        have hwfL := hwf _ (List.getElem_mem (show n.lines[k].stops.length - 1 < n.lines[k].stops.length by omega))
        have HBx : Hid (Below w.heap.size w (wr.alloc (.cells #[.string n.lines[k].name, .slice (some ⟨sb, so, none⟩) n.lines[k].stops.length c1, .slice a2 n.lines[k].runs.length c2] 45 (0, 0)))) := HBel.out.alloc (by omega) _
        have hsetx : IntSet w1.heap.size (endsF n k) (wr.alloc (.cells #[.string n.lines[k].name, .slice (some ⟨sb, so, none⟩) n.lines[k].stops.length c1, .slice a2 n.lines[k].runs.length c2] 45 (0, 0))) := SetOf.kept HSet.out (World.grownBy_alloc wr _ none) (by simp)
        obtain ⟨wa, hput1, hset1, hg1⟩ := IntSet.put hsetx hwfF (by unfold maxLen; omega)
        obtain ⟨wb, hput2, hset2, hg2⟩ := IntSet.put hset1 hwfL (by unfold maxLen; simp; omega)
        have z0 : (wr.alloc (.cells #[.string n.lines[k].name, .slice (some ⟨sb, so, none⟩) n.lines[k].stops.length c1, .slice a2 n.lines[k].runs.length c2] 45 (0, 0))).cell? ⟨wr.heap.size, 1, none⟩ = some (.slice (some ⟨sb, so, none⟩) n.lines[k].stops.length c1) := by go_simp
        have z1 : wa.cell? ⟨wr.heap.size, 1, none⟩ = some (.slice (some ⟨sb, so, none⟩) n.lines[k].stops.length c1) := grown_cell hg1 z0 (by simp; omega)
        have hfx := HBx.out.cell (p := ⟨sb, so, none⟩) hsb
        rw [hf0] at hfx
        have hlx : wa.cell? ⟨sb, so + (n.lines[k].stops.length - 1), none⟩ = some (.int .i64 (n.lines[k].stops[n.lines[k].stops.length - 1]'(by omega))) := grown_cell hg1 (by rw [HBx.out.cell (p := ⟨sb, so + (n.lines[k].stops.length - 1), none⟩) hsb]; exact hfl) (by simp; omega)
        have HS2 : Hid (IntSet w1.heap.size (endsF n (k + 1)) wb) := by rw [HEs.out]; exact hset2
        have HBb : Hid (Below w.heap.size w wb) := (HBx.out.grown hg1 (by simp; omega) (fun q hq => by cases hq; omega)).grown hg2 (by have := hg1.size; simp at this; omega) (fun q hq => by cases hq; omega)
        have hszb : w1.heap.size < wb.heap.size := by have := hg1.size; have := hg2.size; simp at *; omega
        have hwr : IntKind.i64.wrap ((n.lines[k].stops.length : Int) - 1) = (n.lines[k].stops.length : Int) - 1 := IntWalk.i64_in _ (by omega)
        have hix : ((n.lines[k].stops.length : Int) - 1).toNat = n.lines[k].stops.length - 1 := by omega
        have hl0 : (0 : Int) < (n.lines[k].stops.length : Int) := by omega
        have hl1 : (n.lines[k].stops.length : Int) - 1 < (n.lines[k].stops.length : Int) := by omega
        have hl2 : (0 : Int) ≤ (n.lines[k].stops.length : Int) - 1 := by omega
        have hl3 : (1 : Int) ≤ (n.lines[k].stops.length : Int) := by omega
        have hl4 : 0 < n.lines[k].stops.length := by omega
        clear hla hsr hrr y0 y1 y2 hbel hgl hsw0 HCs hset1 hset2 hsetx hg1 hg2 hfl hf0 hwf hwfF hwfL
        go_wp2_with fail
        exact ⟨⟨k + 1, by omega, by go_num, HS2, HBb.out, hszb⟩, by simp [RowKit.intOf]; omega⟩
      · have he : k = n.lines.length := by omega
        subst he
        have HBel := Lib.hid hbel
        obtain ⟨D, hown, hperm, hsizeD⟩ := intSet_keys HSet.out (termF_asc n n.lines.length) (fun x => termF_mem n _ x)
        have hlen := termF_len n n.lines.length
        have h5 : n.lines.length ≤ 5 := HGo.out.1.2.2.2
        have HSo := Lib.hid (sortedB_any w1.heap.size _ D _ wr hown (by rw [hsizeD]; unfold maxLen; omega) (by rw [hsizeD]; omega))
        have HP := Lib.hid hperm
        clear hbel hown hperm hsizeD
        go_wp2_with fail
        go_at_call 108
        refine (keysB_any _ _).mono ?_
        rintro e w2 ⟨rfl, rfl⟩
        go_wp2_with fail
        go_at_call 88
        refine HSo.out.mono ?_
        rintro e w3 ⟨vv, ss, rfl, hS, hrow, _, hb3⟩
        have HB3 : Hid (Below w.heap.size w w3) := (HBel.out.alloc (by omega) _).trans (hb3.mono (by simp; omega))
        have hms := mergeSort_asc (termF_asc n n.lines.length) (hS.trans HP.out.symm)
        have hsl : ss.length = (termF n n.lines.length).length := (hS.trans HP.out.symm).length_eq
        rw [hms, hsl] at hrow
        have HR : Hid (w3.ownsRow w.heap.size 3 1 vv (termAns n).length (ints (termAns n))) := by
          show w3.ownsRow _ _ _ _ _ _
          rw [termAns_yes HGo.out]; exact own_base hrow (by omega)
        clear hms hsl hrow hb3 hS
        go_wp2_with fail
        go_ret2
        exact ⟨⟨vv, by rw [hB.out]; rfl, HR.out⟩, HB3.out⟩
  · rw [netB_no hg] at HG
    have HGo := Lib.hid hg
    have hB : Hid (netB n = false) := netB_no hg
    clear hg
    go_enter Try.func59, Try.ntmps59
    go_wp2_with fail
    go_at_call 29
    refine (HG.out _ ((Below.refl _ _).alloc (Nat.le_refl _) _)).mono ?_
    rintro e w1 ⟨rfl, hb1⟩
    have HB1 : Hid (Below w.heap.size w w1) := ((Below.refl _ _).alloc (Nat.le_refl _) _).trans (hb1.mono (by simp))
    clear hb1
    go_wp2_with fail
    go_ret2
    rw [termAns_no HGo.out, hB.out]
    exact ⟨⟨_, rfl, by have := World.ownsRow_lit (base := w.heap.size) (e := 3) (size := 1) w1 #[] 0 HB1.out.size (by decide) (by simp); simpa [ints] using this⟩, HB1.out.alloc HB1.out.size _⟩

theorem bothTerminalStops (n : NetD) (hf : NetFits n) (hs : NetSmall n) : ∃ (res : List Int) (b : Bool), res.length ≤ 1048576 ∧ ∀ (v : Value) (w : World), NetAt w v n →
    Calls Try.prog 58 #[v] w (fun e w' => ∃ v', e = .returned (.tuple #[v', .bool b]) ∧ w'.ownsRow w.heap.size 3 1 v' res.length (ints res) ∧ Below w.heap.size w w') ∧
    Calls Try.prog 59 #[v] w (fun e w' => ∃ v', e = .returned (.tuple #[v', .bool b]) ∧ w'.ownsRow w.heap.size 3 1 v' res.length (ints res) ∧ Below w.heap.size w w') := by
  refine ⟨termAns n, netB n, ?_, fun v w h => ⟨(specTerminalStops_any v n w h hf hs).mono fun e w' ⟨⟨v', h1, h2⟩, h3⟩ => ⟨v', h1, h2, h3⟩, (implTerminalStops_any v n w h hf hs).mono fun e w' ⟨⟨v', h1, h2⟩, h3⟩ => ⟨v', h1, h2, h3⟩⟩⟩
  by_cases hg : NetGood n
  · rw [termAns_yes hg]; have := termF_len n n.lines.length; have := hg.1; omega
  · rw [termAns_no hg]; simp
end Go.Proofs.Yticmghmidnboaaa

import Derived.Test.YtemejcbilhcebaaMk32
import Derived.Test.YtemejcbilhcebaaRunTime
namespace Go.Proofs.Ytemejcbilhcebaa
open Go.RowKit
set_option linter.unusedVariables false

def laF (n : NetD) (stop : Int) : Nat → List Int
  | 0 => []
  | k + 1 => laF n stop k ++ (if h : k < n.lines.length then (if stop ∈ (n.lines[k]'h).stops then [(k : Int)] else []) else [])
theorem laF_len (n : NetD) (stop : Int) : ∀ k, (laF n stop k).length ≤ k
  | 0 => by simp [laF]
  | k + 1 => by
    have := laF_len n stop k
    simp only [laF, List.length_append]
    split
    · split <;> simp <;> omega
    · simp; omega
theorem laF_yes {n : NetD} {stop : Int} {k : Nat} (h : k < n.lines.length) (hs : stop ∈ (n.lines[k]'h).stops) : laF n stop (k + 1) = laF n stop k ++ [(k : Int)] := by simp [laF, h, hs]
theorem laF_no {n : NetD} {stop : Int} {k : Nat} (h : k < n.lines.length) (hs : stop ∉ (n.lines[k]'h).stops) : laF n stop (k + 1) = laF n stop k := by simp [laF, h, hs]
def laAns (n : NetD) (stop : Int) : List Int := if StopIn n stop then laF n stop n.lines.length else []

def IntsR (B : Nat) (res : List Int) (b : Bool) (e : Ending) (w' : World) : Prop := ∃ v, e = .returned (.tuple #[v, .bool b]) ∧ w'.ownsRow B 3 1 v res.length (ints res)

set_option maxRecDepth 100000 in
set_option maxHeartbeats 2000000 in
theorem implLinesAt_any (v : Value) (n : NetD) (stop : Int) (w : World) (hr : NetAt w v n) (hf : NetFits n) (hs : NetSmall n) :
    Calls Try.prog 15 #[v, .int .i64 stop] w fun e w' => IntsR w.heap.size (laAns n stop) (decide (StopIn n stop)) e w' ∧ Below w.heap.size w w' := by
  have HStop := Lib.hid (fun W (h : Below w.heap.size w W) => isStopOf_any v n stop W (hr.below rfl h) hf)
  have hsz := hs.2.1
  obtain ⟨a, c, a', c', rfl, hss, hll⟩ := net_open hr
  obtain ⟨_, _, he, _, _, HC⟩ := lines_open hll
  simp at he
  obtain ⟨rfl, rfl⟩ := he
  clear hss hll hr hs hf
  obtain ⟨i0, hi, hz0, hz1, hz2⟩ := info_parts infoInt
  go_enter Try.func15, Try.ntmps15
  go_wp2_with fail
  go_at_call 60
  refine (HStop.out _ (((Below.refl _ _).alloc (Nat.le_refl _) _).alloc (by simp) _)).mono ?_
  rintro e w1 ⟨h1, hb1⟩
  have HB1 : Hid (Below w.heap.size w w1) := (((Below.refl _ _).alloc (Nat.le_refl _) _).alloc (by simp) _).trans (hb1.mono (by simp; omega))
  have p1 : w1.cell? ⟨w.heap.size, 1, none⟩ = some (.slice a' n.lines.length c') := bkeep hb1 (by go_simp)
  have HO1 : Hid (w1.ownsRow (w.heap.size + 1) 3 1 (.slice (some ⟨w.heap.size + 1, 0, none⟩) 0 0) 0 (ints [])) := by
    have h := own_later (World.ownsRow_lit (base := w.heap.size + 1) (e := 3) (size := 1) (w.alloc (.cells #[.slice a n.stops.length c, .slice a' n.lines.length c'] 27 (0, 0))) #[] 0 (by simp) (by decide) (by simp)) hb1
    show w1.ownsRow _ _ _ _ _ _
    simpa [ints] using h
  clear hb1
  rcases h1 with ⟨hok, rfl⟩ | ⟨hok, rfl⟩
  · have HOk := Lib.hid hok
    clear hok
    have hsz1 : w.heap.size < w1.heap.size := World.block_lt_of_cell? w1 _ p1
    go_wp2_with fail
    go_loopw [6, 18] (fun o i wr => ∃ k : Nat, k ≤ n.lines.length ∧ i = .int .i64 k ∧ Hid (wr.ownsRow (w.heap.size + 1) 3 1 o (laF n stop k).length (ints (laF n stop k))) ∧ Below w.heap.size w wr ∧ w.heap.size < wr.heap.size)
      (fun _ i _ => n.lines.length - (RowKit.intOf i).toNat)
    case atStart => exact ⟨0, Nat.zero_le _, rfl, HO1.out, HB1.out, hsz1⟩
    case round =>
      clear p1
      obtain ⟨k, hk, rfl, HOwn, hbel, hszr⟩ := hrel
      by_cases hlt : k < n.lines.length
      · obtain ⟨b, off, rfl, hbl, hla⟩ := HC.out k hlt
        obtain ⟨a1, c1, a2, c2, y0, y1, y2, hlv⟩ := hla.toW
        have hx0 := hbel.cell (p := ⟨b, off + k * 3, none⟩) hbl
        rw [y0] at hx0
        have hx1 := hbel.cell (p := ⟨b, off + k * 3 + 1, none⟩) hbl
        rw [y1] at hx1
        have hx2 := hbel.cell (p := ⟨b, off + k * 3 + 2, none⟩) hbl
        rw [y2] at hx2
        obtain ⟨_, _, hh, hsr, hrr⟩ := hlv
        simp at hh
        obtain ⟨rfl, rfl⟩ := hh
        clear hrr
        have HCt := Lib.hid (fun W (h : Below w.heap.size w W) bb (hb : bb = decide (stop ∈ n.lines[k].stops)) => containsInt_any _ n.lines[k].stops stop bb hb W (hsr.below rfl h))
        have hll := laF_len n stop k
        have HBel := Lib.hid hbel
        clear hla hsr y0 y1 y2 hbel
        have HBx : Hid (Below w.heap.size w (wr.alloc (.cells #[.string n.lines[k].name, .slice a1 n.lines[k].stops.length c1, .slice a2 n.lines[k].runs.length c2] 36 (0, 0)))) := HBel.out.alloc (by omega) _
        by_cases hin : stop ∈ n.lines[k].stops
        · have HF := Lib.hid (laF_yes hlt hin)
          have HCy := Lib.hid (HCt.out _ HBx.out true (decide_eq_true hin).symm)
          clear hin HCt
          go_wp2_with (first | (go_at_call 61; refine HCy.out.mono ?_; rintro e w2 ⟨rfl, rfl⟩) | (at_builtin; refine wpList_append_own _ rfl _ _ 34 rfl (w.heap.size + 1) 3 i0 (.int .i64 0) 1 8 Try.underlying34 hi hz0 hz1 hz2 rfl (by decide) _ _ _ rfl ((HOwn.out.alloc _).alloc _) ⟨wr.heap.size + 1, 0, none⟩ 1 1 [.int .i64 (k : Int)] rfl rfl ?c1 ?c2 ?c3 ?c4 ?c5 ?_))
          case c1 => exact one_newN (wr.alloc _) _ _ (by simp)
          case c2 => intro u hu; simp at hu; subst hu; rfl
          case c3 => unfold maxLen; omega
          case c4 => omega
          case c5 => simp; omega
          intro v' w3 hown' hgrow _
          have HB3 : Hid (Below w.heap.size w w3) := (HBx.out.alloc (by simp; omega) _).grown hgrow (by simp; omega) (fun g hg => by have := (HOwn.out.lt g hg).1; omega)
          have hsz3 : w.heap.size < w3.heap.size := by have := hgrow.size; simp at this; omega
          have HR : Hid (w3.ownsRow (w.heap.size + 1) 3 1 v' (laF n stop (k + 1)).length (ints (laF n stop (k + 1)))) := by
            show w3.ownsRow _ _ _ _ _ _
            rw [HF.out]; simpa [ints] using hown'
          clear hown' hgrow hx0 hx1 hx2
          go_wp2_with fail
          go_roundw
          case rel => exact ⟨k + 1, by omega, by go_num, HR, HB3.out, hsz3⟩
          case measure => simp [RowKit.intOf]; omega
        · have HF := Lib.hid (laF_no hlt hin)
          have HCn := Lib.hid (HCt.out _ HBx.out false (decide_eq_false hin).symm)
          clear hin HCt
          have HR := Lib.hid (HOwn.out.alloc (.cells #[.string n.lines[k].name, .slice a1 n.lines[k].stops.length c1, .slice a2 n.lines[k].runs.length c2] 36 (0, 0)))
          rw [← HF.out] at HR
          go_wp2_with (go_at_call 61; refine HCn.out.mono ?_; rintro e w2 ⟨rfl, rfl⟩)
          go_roundw
          case rel => exact ⟨k + 1, by omega, by go_num, HR, HBx.out, by simp; omega⟩
          case measure => simp [RowKit.intOf]; omega
      · have HBel := Lib.hid hbel
        have he : k = n.lines.length := by omega
        subst he
        clear hbel
        go_wp2_with fail
        go_ret2
        rw [show laAns n stop = laF n stop n.lines.length from if_pos HOk.out, decide_eq_true HOk.out]
        exact ⟨⟨_, rfl, own_base HOwn.out (by omega)⟩, HBel.out⟩
  · have HOk := Lib.hid hok
    clear hok
    go_wp2_with fail
    go_ret2
    rw [show laAns n stop = [] from if_neg HOk.out, decide_eq_false HOk.out]
    exact ⟨⟨_, rfl, own_base HO1.out (by omega)⟩, HB1.out⟩

end Go.Proofs.Ytemejcbilhcebaa

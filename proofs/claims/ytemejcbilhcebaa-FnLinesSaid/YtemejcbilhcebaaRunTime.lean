import Derived.Test.YtemejcbilhcebaaMk32
import Derived.Test.YtemejcbilhcebaaMk19
namespace Go.Proofs.Ytemejcbilhcebaa
open Go.RowKit
set_option linter.unusedVariables false

def runAns (n : NetD) (line fr tt : Int) : Int × Bool :=
  if h : NetGood n ∧ 0 ≤ line ∧ line < n.lines.length then
    let l := n.lines[line.toNat]'(by omega)
    if 0 ≤ fstIdx fr l.stops ∧ fstIdx fr l.stops < fstIdx tt l.stops then (runSum l (fstIdx fr l.stops).toNat (fstIdx tt l.stops).toNat, true) else (0, false)
  else (0, false)
def IsRun (n : NetD) (line fr tt : Int) (e : Ending) : Prop := e = .returned (.tuple #[.int .i64 (runAns n line fr tt).1, .bool (runAns n line fr tt).2])
theorem run_bad {n : NetD} {line fr tt : Int} (h : ¬ (NetGood n ∧ 0 ≤ line ∧ line < n.lines.length)) : IsRun n line fr tt (.returned (.tuple #[.int .i64 0, .bool false])) := by
  unfold IsRun runAns; rw [dif_neg h]
theorem run_no {n : NetD} {i : Nat} {fr tt : Int} (hi : i < n.lines.length) (h : ¬ (0 ≤ fstIdx fr n.lines[i].stops ∧ fstIdx fr n.lines[i].stops < fstIdx tt n.lines[i].stops)) : IsRun n i fr tt (.returned (.tuple #[.int .i64 0, .bool false])) := by
  unfold IsRun runAns
  split
  · rename_i g
    have h' : ¬ (0 ≤ fstIdx fr (n.lines[((i : Nat) : Int).toNat]'(by omega)).stops ∧ fstIdx fr (n.lines[((i : Nat) : Int).toNat]'(by omega)).stops < fstIdx tt (n.lines[((i : Nat) : Int).toNat]'(by omega)).stops) := h
    simp only [if_neg h']
  · rfl
theorem run_yes {n : NetD} {i : Nat} {fr tt : Int} (hg : NetGood n) (hi : i < n.lines.length) {a b : Nat} (ha : fstIdx fr n.lines[i].stops = a) (hb : fstIdx tt n.lines[i].stops = b) (h : a < b) : IsRun n i fr tt (.returned (.tuple #[.int .i64 (runSum n.lines[i] a b), .bool true])) := by
  unfold IsRun runAns
  rw [dif_pos ⟨hg, by omega, by omega⟩]
  have e : n.lines[((i : Nat) : Int).toNat]'(by omega) = n.lines[i] := rfl
  simp only [e, ha, hb]
  rw [if_pos ⟨by omega, by omega⟩]
  rfl

set_option maxRecDepth 100000 in
set_option maxHeartbeats 4000000 in
theorem implRunTime_any (v : Value) (n : NetD) (line fr tt : Int) (w : World) (hr : NetAt w v n) (hf : NetFits n) :
    Calls Try.prog 13 #[v, .int .i64 line, .int .i64 fr, .int .i64 tt] w fun e w' => IsRun n line fr tt e ∧ Below w.heap.size w w' := by
  have HIs := Lib.hid (fun W (h : Below w.heap.size w W) => isLineOf_any v n line W (hr.below rfl h) hf)
  obtain ⟨a, c, a', c', rfl, hss, hll⟩ := net_open hr
  obtain ⟨_, _, he, _, _, HC⟩ := lines_open hll
  simp at he
  obtain ⟨rfl, rfl⟩ := he
  clear hss hll hr hf
  go_enter Try.func13, Try.ntmps13
  go_wp2_with fail
  go_at_call 44
  refine (HIs.out _ ((Below.refl _ _).alloc (Nat.le_refl _) _)).mono ?_
  rintro e w1 ⟨h1, hb1⟩
  have HB1 : Hid (Below w.heap.size w w1) := ((Below.refl _ _).alloc (Nat.le_refl _) _).trans (hb1.mono (by simp))
  have p1 : w1.cell? ⟨w.heap.size, 1, none⟩ = some (.slice a' n.lines.length c') := bkeep hb1 (by go_simp)
  clear hb1
  rcases h1 with ⟨hok, rfl⟩ | ⟨hok, rfl⟩
  · obtain ⟨hg, hl0, hl1⟩ := hok
    obtain ⟨i, hi⟩ := Int.eq_ofNat_of_zero_le hl0
    subst hi
    have hi : i < n.lines.length := by omega
    clear hl0
    obtain ⟨b, off, rfl, hbl, hla⟩ := HC.out i hi
    obtain ⟨a1, c1, a2, c2, y0, y1, y2, hlv⟩ := hla.toW
    have hlv1 := hlv.below rfl HB1.out
    obtain ⟨_, _, hh, hsr, hrr⟩ := hlv1
    simp at hh
    obtain ⟨rfl, rfl⟩ := hh
    have hgl := good_line hg i hi
    have HIdx := Lib.hid (fun W (h : Below w1.heap.size w1 W) s A (hA : fstIdx s n.lines[i].stops = A) => (indexInt_any _ n.lines[i].stops s W (hsr.below rfl h)).mono (R' := fun e w' => e = .returned (.int .i64 A) ∧ W = w') (fun e w' ⟨he, hw⟩ => ⟨by rw [he, hA], hw⟩))
    have HRow := Lib.hid hrr
    have HGl := Lib.hid hgl
    have HG := Lib.hid hg
    have hx0 := HB1.out.cell (p := ⟨b, off + i * 3, none⟩) hbl
    rw [y0] at hx0
    have hx1 := HB1.out.cell (p := ⟨b, off + i * 3 + 1, none⟩) hbl
    rw [y1] at hx1
    have hx2 := HB1.out.cell (p := ⟨b, off + i * 3 + 2, none⟩) hbl
    rw [y2] at hx2
    have hrl : n.lines[i].runs.length ≤ c2 := by
      obtain ⟨_, _, e1, e2, _⟩ := hrr; simp at e1; obtain ⟨_, _, rfl⟩ := e1; rw [ints_len] at e2; exact e2
    obtain ⟨A, hA⟩ : ∃ A, fstIdx fr n.lines[i].stops = A := ⟨_, rfl⟩
    obtain ⟨B, hB⟩ : ∃ B, fstIdx tt n.lines[i].stops = B := ⟨_, rfl⟩
    have HA := Lib.hid hA
    have HB := Lib.hid hB
    clear hA hB hla hlv y0 y1 y2 hg hgl hsr hrr
    go_wp2_with fail
    go_quiet ((go_at_call 56; exact quietL (HIdx.out _ (((Below.refl _ _).alloc (Nat.le_refl _) _).trans ((Dr.below ⟨_, rfl⟩).mono (by simp))) _ _ (by first | exact HA.out | exact HB.out))))
    have hbf : ∀ m, Below w.heap.size w ((w1.alloc (.cells #[.string n.lines[i].name, .slice a1 n.lines[i].stops.length c1, .slice a2 n.lines[i].runs.length c2] 36 (0, 0))).drewN m) := fun m =>
      (HB1.out.alloc HB1.out.size _).trans ((Dr.below ⟨m, rfl⟩).mono (by simp; have := HB1.out.size; omega))
    have HBF := Lib.hid hbf
    clear hbf hx0 hx1 hx2 p1
    by_cases hA0 : A < 0
    · have HR := Lib.hid (run_no (fr := fr) (tt := tt) hi (by rw [HA.out]; omega))
      go_wp2_with fail
      go_ret2
      exact ⟨HR.out, HBF.out _⟩
    · have hA1 : 0 ≤ A := by omega
      by_cases hAB : B ≤ A
      · have HR := Lib.hid (run_no (fr := fr) (tt := tt) hi (by rw [HA.out, HB.out]; omega))
        clear hA0
        go_wp2_with fail
        go_ret2
        exact ⟨HR.out, HBF.out _⟩
      · obtain ⟨x, rfl⟩ := Int.eq_ofNat_of_zero_le hA1
        obtain ⟨y, rfl⟩ := Int.eq_ofNat_of_zero_le (show 0 ≤ B by omega)
        have hxy : x < y := by omega
        have hyl : y ≤ n.lines[i].runs.length := by
          have h1 := fstIdx_lt tt n.lines[i].stops; rw [HB.out] at h1; have h2 := HGl.out.2.1.2.2; omega
        have HR := Lib.hid (run_yes (fr := fr) (tt := tt) HG.out hi HA.out HB.out hxy)
        have h0 : ¬ (x : Int) < 0 := by omega
        have h1 : ¬ (y : Int) ≤ (x : Int) := by omega
        obtain ⟨rb, ro, rfl, hpart⟩ := row_part HRow.out hxy hyl
        have hlen6 : n.lines[i].runs.length ≤ 6 := by have := HGl.out.2.1; omega
        have HSum := Lib.hid (fun m => sumOf_any _ _ _ ((hpart.below rfl ((Below.refl _ _).alloc (Nat.le_refl _) (.cells #[.string n.lines[i].name, .slice a1 n.lines[i].stops.length c1, .slice (some ⟨rb, ro, none⟩) n.lines[i].runs.length c2] 36 (0, 0)))).drewN m) (by simp; omega) (fun r hr => HGl.out.2.2.2.2 r (List.mem_of_mem_drop (List.mem_of_mem_take hr))))
        have e1 : (x : Int) ≤ (y : Int) := by omega
        have e2 : (y : Int) ≤ (c2 : Int) := by omega
        clear hA0 hA1 hAB hpart hyl
        go_wp2_with fail
        go_at_call 57
        refine (HSum.out _).mono ?_
        rintro e w3 ⟨rfl, rfl⟩
        go_wp2_with fail
        go_ret2
        exact ⟨HR.out, HBF.out _⟩
  · have HR := Lib.hid (run_bad (fr := fr) (tt := tt) hok)
    clear hok
    go_wp2_with fail
    go_ret2
    exact ⟨HR.out, HB1.out⟩
end Go.Proofs.Ytemejcbilhcebaa

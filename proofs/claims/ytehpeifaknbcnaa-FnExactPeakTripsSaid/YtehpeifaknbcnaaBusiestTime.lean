import Derived.Test.YtehpeifaknbcnaaSpanGood
import Derived.Test.YtehpeifaknbcnaaInts
namespace Go.Proofs.Ytehpeifaknbcnaa
open Go.RowKit
set_option linter.unusedVariables false

def busyA (xs : List SpanD) : Int := if SpansOk xs then (busyT xs : Int) else 0
def busyM (xs : List SpanD) : Int := if SpansOk xs then (busyN xs : Int) else 0

theorem cov_take (xs : List SpanD) (t : Int) (k : Nat) (h : k < xs.length) : cov (xs.take (k + 1)) t = cov (xs.take k) t + if xs[k].1 ≤ t ∧ t < xs[k].2 then 1 else 0 := by
  rw [List.take_succ_eq_append_getElem h, cov_append, cov_one]

set_option maxHeartbeats 2000000 in
theorem countContaining_any (v : Value) (xs : List SpanD) (t : Int) (w : World) (hr : SpansAt w v xs) (hn : SpansSmall xs) :
    Calls Try.prog 112 #[v, .int .i64 t] w fun e w' => e = .returned (.int .i64 (cov xs t : Int)) ∧ Below w.heap.size w w' := by
  unfold SpansSmall at hn
  obtain ⟨a, c, rfl, hc, hm, HC⟩ := spans_open hr
  clear hr
  go_enter Try.func112, Try.ntmps112
  go_wp2_with fail
  go_loopw [5, 10] (fun q i wr => ∃ (k z : Nat), k ≤ xs.length ∧ z ≤ k ∧ i = .int .i64 k ∧ q = .int .i64 (z : Int) ∧ Hid (z = cov (xs.take k) t) ∧ Hid (Below w.heap.size w wr)) (fun _ i _ => xs.length - (RowKit.intOf i).toNat)
  case atStart => exact ⟨0, 0, Nat.zero_le _, Nat.le_refl _, rfl, rfl, (show (0 : Nat) = cov (xs.take 0) t from rfl), Below.refl _ _⟩
  case round =>
    obtain ⟨k, z, hk, hzk, rfl, rfl, HZ, HB⟩ := hrel
    by_cases hlt : k < xs.length
    · obtain ⟨b, off, rfl, hbl, y0, y1⟩ := HC.out k hlt
      have hx0 := HB.out.cell (p := ⟨b, off + k * 2, none⟩) hbl
      rw [y0] at hx0
      have hx1 := HB.out.cell (p := ⟨b, off + k * 2 + 1, none⟩) hbl
      rw [y1] at hx1
      clear y0 y1
      have HS := Lib.hid (cov_take xs t k hlt)
      have HB1 : Hid (Below w.heap.size w (wr.alloc (.cells #[.int .i64 xs[k].1, .int .i64 xs[k].2] 104))) := HB.out.alloc HB.out.size _
      generalize xs[k] = y at *
      obtain ⟨p, q⟩ := y
      simp only at *
      by_cases h1 : p ≤ t
      · by_cases h2 : t < q
        · have HN : Hid (z + 1 = cov (xs.take (k + 1)) t) := by show _ = _; rw [HS.out, if_pos (show p ≤ t ∧ t < q from ⟨h1, h2⟩), HZ.out]
          clear HZ HS
          go_wp2_with fail
          go_roundw
          case rel => exact ⟨k + 1, z + 1, by omega, by omega, by go_num, by go_num, HN, HB1⟩
          case measure => simp [RowKit.intOf]; omega
        · have HN : Hid (z = cov (xs.take (k + 1)) t) := by show _ = _; rw [HS.out, if_neg (show ¬ (p ≤ t ∧ t < q) from fun g => h2 g.2), HZ.out]; omega
          clear HZ HS
          go_wp2_with fail
          go_roundw
          case rel => exact ⟨k + 1, z, by omega, by omega, by go_num, by go_num, HN, HB1⟩
          case measure => simp [RowKit.intOf]; omega
      · have HN : Hid (z = cov (xs.take (k + 1)) t) := by show _ = _; rw [HS.out, if_neg (show ¬ (p ≤ t ∧ t < q) from fun g => h1 g.1), HZ.out]; omega
        clear HZ HS
        go_wp2_with fail
        go_roundw
        case rel => exact ⟨k + 1, z, by omega, by omega, by go_num, by go_num, HN, HB1⟩
        case measure => simp [RowKit.intOf]; omega
    · have hkl : k = xs.length := by omega
      subst hkl
      go_wp2_with fail
      go_ret
      exact ⟨by rw [HZ.out, List.take_length]; rfl, HB.out⟩

set_option maxHeartbeats 4000000 in
theorem implBusy_any (v : Value) (xs : List SpanD) (w : World) (hr : SpansAt w v xs) (hn : SpansSmall xs) :
    Calls Try.prog 76 #[v] w fun e w' => e = .returned (.tuple #[.int .i64 (busyA xs), .int .i64 (busyM xs), .bool (spansB xs)]) ∧ Below w.heap.size w w' := by
  have HS := Lib.hid (areSpans_any v xs w hr hn)
  have HCnt := Lib.hid (fun W (h : Below w.heap.size w W) t => countContaining_any v xs t W (hr.below rfl h) hn)
  unfold SpansSmall at hn
  obtain ⟨a, c, rfl, hc, hm, HC⟩ := spans_open hr
  clear hr
  unfold busyA busyM
  by_cases hok : SpansOk xs
  · rw [spansB_yes hok] at HS ⊢
    rw [if_pos hok, if_pos hok]
    have HAll := Lib.hid (busyF_eq hok.2)
    have h20 := hok.1
    clear hok
    go_enter Try.func76, Try.ntmps76
    go_wp2_with fail
    go_at_call 111
    refine HS.out.mono ?_
    rintro e w1 ⟨rfl, hb1⟩
    have HB1 := Lib.hid hb1
    clear hb1
    go_wp2_with fail
    go_loopw [5, 6, 15] (fun p q i wr => ∃ (k : Nat) (b m : Int), k ≤ xs.length ∧ i = .int .i64 k ∧ p = .int .i64 b ∧ q = .int .i64 m ∧ Hid (busyF xs (xs.take k) = (b, m)) ∧ Hid (Below w.heap.size w wr)) (fun _ _ i _ => xs.length - (RowKit.intOf i).toNat)
    case atStart => exact ⟨0, 0, 0, Nat.zero_le _, rfl, rfl, rfl, (show busyF xs (xs.take 0) = (0, 0) from rfl), HB1.out⟩
    case round =>
      clear HB1
      obtain ⟨k, b, m, hk, rfl, rfl, rfl, HF, HB⟩ := hrel
      by_cases hlt : k < xs.length
      · obtain ⟨bl, off, rfl, hbl, y0, y1⟩ := HC.out k hlt
        have hx0 := HB.out.cell (p := ⟨bl, off + k * 2, none⟩) hbl
        rw [y0] at hx0
        have hx1 := HB.out.cell (p := ⟨bl, off + k * 2 + 1, none⟩) hbl
        rw [y1] at hx1
        clear y0 y1
        have HS := Lib.hid (busyF_take xs xs k hlt)
        have HB1 : Hid (Below w.heap.size w (wr.alloc (.cells #[.int .i64 xs[k].1, .int .i64 xs[k].2] 104))) := HB.out.alloc HB.out.size _
        have HBox := Lib.hid (SpanBox.new wr xs[k] 104)
        have HCk := Lib.hid (HCnt.out _ HB1.out xs[k].1)
        have hcb := cov_le xs xs[k].1
        have HSt : Hid (busyF xs (xs.take (k + 1)) = if m < (cov xs xs[k].1 : Int) ∨ ((cov xs xs[k].1 : Int) = m ∧ xs[k].1 < b) then (xs[k].1, (cov xs xs[k].1 : Int)) else (b, m)) := by
          show _ = _; rw [HS.out, HF.out]; rfl
        clear HS HF
        generalize xs[k] = y at *
        obtain ⟨p, q⟩ := y
        simp only at *
        generalize cov xs p = z at *
        go_wp2_with fail
        go_at_call 112
        refine HCk.out.mono ?_
        rintro e w2 ⟨rfl, hb2⟩
        have HB2 : Hid (Below w.heap.size w w2) := HB1.out.trans (hb2.mono HB1.out.size)
        obtain ⟨p0, p1, pf⟩ := HBox.out.keep hb2
        simp only at p0 p1
        clear hb2 HB1 HB HBox hx0 hx1 HCk
        by_cases g1 : m < (z : Int)
        · have HN : Hid (busyF xs (xs.take (k + 1)) = (p, (z : Int))) := by show _ = _; rw [HSt.out, if_pos (.inl g1)]
          clear HSt
          go_wp2_with fail
          go_roundw
          case rel => exact ⟨k + 1, p, z, by omega, by go_num, rfl, rfl, HN, HB2⟩
          case measure => simp [RowKit.intOf]; omega
        · by_cases g2 : (z : Int) = m
          · by_cases g3 : p < b
            · have HN : Hid (busyF xs (xs.take (k + 1)) = (p, (z : Int))) := by show _ = _; rw [HSt.out, if_pos (.inr ⟨g2, g3⟩)]
              subst g2
              clear HSt
              go_wp2_with fail
              go_roundw
              case rel => exact ⟨k + 1, p, z, by omega, by go_num, rfl, rfl, HN, HB2⟩
              case measure => simp [RowKit.intOf]; omega
            · have HN : Hid (busyF xs (xs.take (k + 1)) = (b, m)) := by show _ = _; rw [HSt.out, if_neg (fun g => by rcases g with g | g; exact g1 g; exact g3 g.2)]
              subst g2
              clear HSt
              go_wp2_with fail
              go_roundw
              case rel => exact ⟨k + 1, b, z, by omega, by go_num, rfl, rfl, HN, HB2⟩
              case measure => simp [RowKit.intOf]; omega
          · have HN : Hid (busyF xs (xs.take (k + 1)) = (b, m)) := by show _ = _; rw [HSt.out, if_neg (fun g => by rcases g with g | g; exact g1 g; exact g2 g.1)]
            have g2' : decide ((z : Int) = m) = false := decide_eq_false g2
            clear HSt
            go_wp2_with fail
            go_roundw
            case rel => exact ⟨k + 1, b, m, by omega, by go_num, rfl, rfl, HN, HB2⟩
            case measure => simp [RowKit.intOf]; omega
      · have hkl : k = xs.length := by omega
        subst hkl
        have HR : Hid (b = (busyT xs : Int) ∧ m = (busyN xs : Int)) := by
          have e := HF.out
          rw [List.take_length, HAll.out] at e
          exact ⟨(congrArg Prod.fst e).symm, (congrArg Prod.snd e).symm⟩
        go_wp2_with fail
        go_ret3
        exact ⟨by rw [← HR.out.1, ← HR.out.2]; rfl, HB.out⟩
  · rw [spansB_no hok] at HS ⊢
    rw [if_neg hok, if_neg hok]
    clear hok HC
    go_enter Try.func76, Try.ntmps76
    go_wp2_with fail
    go_at_call 111
    refine HS.out.mono ?_
    rintro e w1 ⟨rfl, hb1⟩
    go_wp2_with fail
    go_ret3
    exact ⟨rfl, hb1⟩

end Go.Proofs.Ytehpeifaknbcnaa

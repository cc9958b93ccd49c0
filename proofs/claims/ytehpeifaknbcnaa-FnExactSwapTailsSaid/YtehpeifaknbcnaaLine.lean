import Derived.Test.YtehpeifaknbcnaaMk12
import Derived.Test.YtehpeifaknbcnaaName
import Derived.Deep.RegionHeld3
import Derived.BigQuiet
import Derived.IntWalk
import Derived.Deep.DeepCutAuto
namespace Go.Proofs.Ytehpeifaknbcnaa
open Go.RowKit
set_option linter.unusedVariables false

def StopsTo (l : LineD) (n : Nat) (k : Nat) : Prop := ∀ j (h : j < l.stops.length), j < k → (0 ≤ l.stops[j] ∧ l.stops[j] < (n : Int)) ∧ fstIdx l.stops[j] l.stops = j
def RunsTo (l : LineD) (k : Nat) : Prop := ∀ j (h : j < l.runs.length), j < k → 1 ≤ l.runs[j] ∧ l.runs[j] ≤ 60
theorem stopsTo_succ {l : LineD} {n k : Nat} (hk : k < l.stops.length) (h : StopsTo l n k) (h1 : 0 ≤ l.stops[k] ∧ l.stops[k] < (n : Int)) (h2 : fstIdx l.stops[k] l.stops = k) : StopsTo l n (k + 1) := by
  intro j hj hjk
  by_cases e : j = k
  · subst e; exact ⟨h1, h2⟩
  · exact h j hj (by omega)
theorem runsTo_succ {l : LineD} {k : Nat} (hk : k < l.runs.length) (h : RunsTo l k) (h1 : 1 ≤ l.runs[k] ∧ l.runs[k] ≤ 60) : RunsTo l (k + 1) := by
  intro j hj hjk
  by_cases e : j = k
  · subst e; exact h1
  · exact h j hj (by omega)
theorem lineOk_iff {l : LineD} {n : Nat} (h : 2 ≤ l.stops.length ∧ l.stops.length ≤ 6 ∧ l.runs.length + 1 = l.stops.length) : LineOk l n ↔ StopsTo l n l.stops.length ∧ RunsTo l l.runs.length := by
  constructor
  · rintro ⟨_, h1, h2, h3⟩
    exact ⟨fun j hj _ => ⟨h1 _ (List.getElem_mem hj), (nodup_first _).1 h2 j hj⟩, fun j hj _ => h3 _ (List.getElem_mem hj)⟩
  · rintro ⟨h1, h2⟩
    refine ⟨h, fun s hs => ?_, (nodup_first _).2 fun j hj => (h1 j hj hj).2, fun r hr => ?_⟩
    · obtain ⟨j, hj, rfl⟩ := List.getElem_of_mem hs; exact (h1 j hj hj).1
    · obtain ⟨j, hj, rfl⟩ := List.getElem_of_mem hr; exact h2 j hj hj

theorem keepL {W w w' : World} {B b0 b o : Nat} {x0 x1 x2 y : Value} (hb : Below w.heap.size w w') (h0 : w.cell? ⟨b0, 0, none⟩ = some x0) (h1 : w.cell? ⟨b0, 1, none⟩ = some x1) (h2 : w.cell? ⟨b0, 2, none⟩ = some x2) (h3 : w.cell? ⟨b, o, none⟩ = some y)
    (h4 : Below B W w) (h5 : B < w.heap.size) (hB : B = b0) : w'.cell? ⟨b0, 0, none⟩ = some x0 ∧ w'.cell? ⟨b0, 1, none⟩ = some x1 ∧ w'.cell? ⟨b0, 2, none⟩ = some x2 ∧ w'.cell? ⟨b, o, none⟩ = some y ∧ Below B W w' ∧ B < w'.heap.size :=
  ⟨by rw [hb.cell (p := ⟨b0, 0, none⟩) (World.block_lt_of_cell? w _ h0)]; exact h0, by rw [hb.cell (p := ⟨b0, 1, none⟩) (World.block_lt_of_cell? w _ h1)]; exact h1, by rw [hb.cell (p := ⟨b0, 2, none⟩) (World.block_lt_of_cell? w _ h2)]; exact h2,
    by rw [hb.cell (p := ⟨b, o, none⟩) (World.block_lt_of_cell? w _ h3)]; exact h3, h4.trans (hb.mono (by omega)), Nat.lt_of_lt_of_le h5 hb.size⟩

theorem l2Line_any (v : Value) (l : LineD) (n : Nat) (w : World) (hr : LineV w v l) (hn : n ≤ 1048576) (hnm : l.name.size ≤ maxLen) :
    Calls Try.prog 118 #[v, .int .i64 n] w fun e w' => e = .returned (.bool (lineGoodB l n)) ∧ Below w.heap.size w w' := by
  have HV := Lib.hid hr
  obtain ⟨sv, rv, rfl, hs, hrr⟩ := hr
  obtain ⟨a, c, rfl, hc, hm, HC⟩ := ints_open hs
  obtain ⟨a', c', rfl, hc', hm', HC'⟩ := ints_open hrr
  clear hs hrr
  have HN := Lib.hid (fun W => l2Name_any l.name W hnm)
  by_cases hnam : NameOk l.name
  · by_cases hlen : 2 ≤ (l.stops.length : Int) ∧ (l.stops.length : Int) ≤ 6
    · by_cases hrun : l.runs.length + 1 = l.stops.length
      · rw [nameB_yes hnam] at HN
        have HLO := Lib.hid (lineOk_iff (l := l) (n := n) ⟨by omega, by omega, hrun⟩)
        have HNam := Lib.hid hnam
        have hne : ((l.runs.length : Int) != (l.stops.length : Int) - 1) = false := by simp; omega
        obtain ⟨g1, g2⟩ := hlen
        clear hnam hrun
        go_enter Try.func118, Try.ntmps118
        go_wp2_with (first | (go_at_call 116; refine (HN.out _).mono ?_; rintro e w' ⟨rfl, rfl⟩) | (go_at_call 92; refine (l1In_yes _ _ _ _ ⟨g1, g2⟩).mono ?_; rintro e w' ⟨rfl, rfl⟩))
        clear HN
        go_loopw [5] (fun i wr => ∃ k : Nat, k ≤ l.stops.length ∧ i = .int .i64 k ∧ Hid (StopsTo l n k) ∧
            wr.cell? ⟨w.heap.size, 0, none⟩ = some (.string l.name) ∧ wr.cell? ⟨w.heap.size, 1, none⟩ = some (.slice a l.stops.length c) ∧ wr.cell? ⟨w.heap.size, 2, none⟩ = some (.slice a' l.runs.length c') ∧ Below w.heap.size w wr ∧ w.heap.size < wr.heap.size)
          (fun i _ => l.stops.length - (RowKit.intOf i).toNat)
        case atStart => exact ⟨0, Nat.zero_le _, rfl, fun j hj h => by omega, by simp, by simp, by simp, (Below.refl _ _).alloc (Nat.le_refl _) _, by simp⟩
        case round =>
          obtain ⟨k, hk, rfl, HT, hb0, hb1, hb2, hbel, hsz⟩ := hrel
          by_cases hlt : k < l.stops.length
          · obtain ⟨b, off, rfl, hbl, hcx0⟩ := HC.out k hlt
            have hcx : wr.cell? ⟨b, off + k, none⟩ = some (.int .i64 l.stops[k]) := by rw [hbel.cell (p := ⟨b, off + k, none⟩) hbl]; exact hcx0
            have hw1 : IntKind.i64.wrap ((n : Int) - 1) = (n : Int) - 1 := IntWalk.i64_in _ (by omega)
            by_cases hin : 0 ≤ l.stops[k] ∧ l.stops[k] ≤ (n : Int) - 1
            · have HIn := Lib.hid hin
              by_cases hfst : fstIdx l.stops[k] l.stops = k
              · have HT2 := Lib.hid (stopsTo_succ hlt HT.out ⟨hin.1, by have := hin.2; omega⟩ hfst)
                have he : (fstIdx l.stops[k] l.stops != (k : Int)) = false := by simp [hfst]
                clear hin hfst
                go_wp2_with fail
                go_region_held3 (fun w' => w'.cell? ⟨w.heap.size, 0, none⟩ = some (.string l.name) ∧ w'.cell? ⟨w.heap.size, 1, none⟩ = some (.slice (some ⟨b, off, none⟩) l.stops.length c) ∧ w'.cell? ⟨w.heap.size, 2, none⟩ = some (.slice a' l.runs.length c') ∧
                    w'.cell? ⟨b, off + k, none⟩ = some (.int .i64 l.stops[k]) ∧ Below w.heap.size w w' ∧ w.heap.size < w'.heap.size)
                  (first | (exact ⟨hb0, hb1, hb2, hcx, hbel.drew, hsz⟩) | (exact keepL (w := wr.drew) hb hb0 hb1 hb2 hcx hbel.drew hsz rfl))
                  (first | (go_at_call 92; refine (l1In_yes _ _ _ _ HIn.out).mono ?_; rintro e w' ⟨rfl, rfl⟩) | (go_at_call 128; refine (l2Place_any _ l _ _ (HV.out.below rfl hbel.drew)).mono ?_; rintro e w' ⟨rfl, hb⟩))
                obtain ⟨q0, q1, q2, _, qb, qs⟩ := (by assumption : _ ∧ _)
                clear hb0 hb1 hb2 hcx hcx0 HIn hbel hsz
                go_wp2_with fail
                go_roundw
                case rel => exact ⟨k + 1, by omega, by go_num, HT2, q0, q1, q2, qb, qs⟩
                case measure => simp [RowKit.intOf]; omega
              · have HNO : Hid (¬ LineGood l n) := fun h => hfst ((HLO.out.1 h.2).1 k hlt hlt).2
                have he : (fstIdx l.stops[k] l.stops != (k : Int)) = true := by simp [hfst]
                clear hin hfst
                go_wp2_with fail
                go_region_held3 (fun w' => w'.cell? ⟨w.heap.size, 0, none⟩ = some (.string l.name) ∧ w'.cell? ⟨w.heap.size, 1, none⟩ = some (.slice (some ⟨b, off, none⟩) l.stops.length c) ∧ w'.cell? ⟨w.heap.size, 2, none⟩ = some (.slice a' l.runs.length c') ∧
                    w'.cell? ⟨b, off + k, none⟩ = some (.int .i64 l.stops[k]) ∧ Below w.heap.size w w' ∧ w.heap.size < w'.heap.size)
                  (first | (exact ⟨hb0, hb1, hb2, hcx, hbel.drew, hsz⟩) | (exact keepL (w := wr.drew) hb hb0 hb1 hb2 hcx hbel.drew hsz rfl))
                  (first | (go_at_call 92; refine (l1In_yes _ _ _ _ HIn.out).mono ?_; rintro e w' ⟨rfl, rfl⟩) | (go_at_call 128; refine (l2Place_any _ l _ _ (HV.out.below rfl hbel.drew)).mono ?_; rintro e w' ⟨rfl, hb⟩))
                obtain ⟨q0, q1, q2, _, qb, qs⟩ := (by assumption : _ ∧ _)
                clear hb0 hb1 hb2 hcx hcx0 HIn hbel hsz
                go_wp2_with fail
                go_ret
                exact ⟨by rw [lineGoodB_no HNO.out]; rfl, qb⟩
            · have HIn := Lib.hid (fun W => l1In_no l.stops[k] 0 ((n : Int) - 1) W hin)
              have HNO : Hid (¬ LineGood l n) := fun h => hin (by have := ((HLO.out.1 h.2).1 k hlt hlt).1; omega)
              clear hin
              have hk1 : (k : Int) < (l.stops.length : Int) := by omega
              go_wp2_with fail
              go_quiet ((go_at_call 92; exact quietL (HIn.out _)))
              go_wp2_with fail
              go_ret
              exact ⟨by rw [lineGoodB_no HNO.out]; rfl, hbel.trans ((Dr.below ⟨_, rfl⟩).mono (by omega))⟩
          · have HT2 : Hid (StopsTo l n l.stops.length) := by have := HT.out; rw [show k = l.stops.length by omega] at this; exact this
            clear HT
            go_wp2_with fail
            go_loop [6] (fun i => ∃ k : Nat, k ≤ l.runs.length ∧ i = .int .i64 k ∧ Hid (RunsTo l k)) (fun i => l.runs.length - (RowKit.intOf i).toNat)
            case atStart => exact ⟨0, Nat.zero_le _, rfl, fun j hj h => by omega⟩
            case round =>
              obtain ⟨k, hk, rfl, HR⟩ := hrel
              by_cases hlt : k < l.runs.length
              · obtain ⟨b, off, rfl, hbl, hcx0⟩ := HC'.out k hlt
                have hcx : wr.cell? ⟨b, off + k, none⟩ = some (.int .i64 l.runs[k]) := by rw [hbel.cell (p := ⟨b, off + k, none⟩) hbl]; exact hcx0
                clear hcx0
                by_cases hin : 1 ≤ l.runs[k] ∧ l.runs[k] ≤ 60
                · have HR2 := Lib.hid (runsTo_succ hlt HR.out hin)
                  have HIn := Lib.hid hin
                  clear hin
                  go_wp2_with (go_at_call 92; refine (l1In_yes _ _ _ _ HIn.out).mono ?_; rintro e w' ⟨rfl, rfl⟩)
                  go_round
                  case rel => exact ⟨k + 1, by omega, by go_num, HR2⟩
                  case measure => simp [RowKit.intOf]; omega
                · have HNO : Hid (¬ LineGood l n) := fun h => hin ((HLO.out.1 h.2).2 k hlt hlt)
                  have HIn := Lib.hid hin
                  clear hin
                  go_wp2_with (go_at_call 92; refine (l1In_no _ _ _ _ HIn.out).mono ?_; rintro e w' ⟨rfl, rfl⟩)
                  go_ret
                  exact ⟨by rw [lineGoodB_no HNO.out]; rfl, hbel⟩
              · have HYES : Hid (LineGood l n) := ⟨HNam.out, HLO.out.2 ⟨HT2.out, by have := HR.out; rw [show k = l.runs.length by omega] at this; exact this⟩⟩
                go_wp2_with fail
                go_ret
                exact ⟨by rw [lineGoodB_yes HYES.out]; rfl, hbel⟩
      · rw [nameB_yes hnam] at HN
        have HNO : Hid (¬ LineGood l n) := fun h => hrun h.2.1.2.2
        have hne : ((l.runs.length : Int) != (l.stops.length : Int) - 1) = true := by rw [bne_iff_ne]; omega
        obtain ⟨g1, g2⟩ := hlen
        clear hnam hrun
        go_enter Try.func118, Try.ntmps118
        go_wp2_with (first | (go_at_call 116; refine (HN.out _).mono ?_; rintro e w' ⟨rfl, rfl⟩) | (go_at_call 92; refine (l1In_yes _ _ _ _ ⟨g1, g2⟩).mono ?_; rintro e w' ⟨rfl, rfl⟩))
        go_ret
        exact ⟨by rw [lineGoodB_no HNO.out]; rfl, (Below.refl _ _).alloc (Nat.le_refl _) _⟩
    · rw [nameB_yes hnam] at HN
      have HNO : Hid (¬ LineGood l n) := fun h => hlen (by have := h.2.1; omega)
      have HIn := Lib.hid hlen
      clear hnam hlen
      go_enter Try.func118, Try.ntmps118
      go_wp2_with (first | (go_at_call 116; refine (HN.out _).mono ?_; rintro e w' ⟨rfl, rfl⟩) | (go_at_call 92; refine (l1In_no _ _ _ _ HIn.out).mono ?_; rintro e w' ⟨rfl, rfl⟩))
      go_ret
      exact ⟨by rw [lineGoodB_no HNO.out]; rfl, (Below.refl _ _).alloc (Nat.le_refl _) _⟩
  · rw [nameB_no hnam] at HN
    have HNO : Hid (¬ LineGood l n) := fun h => hnam h.1
    clear hnam
    go_enter Try.func118, Try.ntmps118
    go_wp2_with (go_at_call 116; refine (HN.out _).mono ?_; rintro e w' ⟨rfl, rfl⟩)
    go_ret
    exact ⟨by rw [lineGoodB_no HNO.out]; rfl, (Below.refl _ _).alloc (Nat.le_refl _) _⟩
end Go.Proofs.Ytehpeifaknbcnaa

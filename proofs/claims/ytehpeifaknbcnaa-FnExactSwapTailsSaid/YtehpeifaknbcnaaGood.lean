import Derived.Test.YtehpeifaknbcnaaLine
import Derived.RegionCalls
namespace Go.Proofs.Ytehpeifaknbcnaa
open Go.RowKit
set_option linter.unusedVariables false

theorem keep7 {W w w' : World} {B : Nat} {p0 p1 p2 p3 p4 : Addr} {x0 x1 x2 x3 x4 : Value} (hb : Below w.heap.size w w')
    (h : w.cell? p0 = some x0 ∧ w.cell? p1 = some x1 ∧ w.cell? p2 = some x2 ∧ w.cell? p3 = some x3 ∧ w.cell? p4 = some x4 ∧ Below B W w ∧ B < w.heap.size) :
    w'.cell? p0 = some x0 ∧ w'.cell? p1 = some x1 ∧ w'.cell? p2 = some x2 ∧ w'.cell? p3 = some x3 ∧ w'.cell? p4 = some x4 ∧ Below B W w' ∧ B < w'.heap.size := by
  obtain ⟨h0, h1, h2, h3, h4, h5, h6⟩ := h
  exact ⟨bkeep hb h0, bkeep hb h1, bkeep hb h2, bkeep hb h3, bkeep hb h4, h5.trans (hb.mono (by omega)), Nat.lt_of_lt_of_le h6 hb.size⟩
theorem bel7 {W w : World} {B : Nat} {p0 p1 p2 p3 p4 : Addr} {x0 x1 x2 x3 x4 : Value}
    (h : w.cell? p0 = some x0 ∧ w.cell? p1 = some x1 ∧ w.cell? p2 = some x2 ∧ w.cell? p3 = some x3 ∧ w.cell? p4 = some x4 ∧ Below B W w ∧ B < w.heap.size) : Below B W w := h.2.2.2.2.2.1

def NamesTo (n : NetD) (k : Nat) : Prop := ∀ j (h : j < n.stops.length), j < k → NameOk n.stops[j] ∧ fstIdx n.stops[j] n.stops = j
def LinesTo (n : NetD) (k : Nat) : Prop := ∀ j (h : j < n.lines.length), j < k → LineGood n.lines[j] n.stops.length ∧ fstIdx n.lines[j].name (n.lines.map (·.name)) = j
theorem namesTo_succ {n : NetD} {k : Nat} (hk : k < n.stops.length) (h : NamesTo n k) (h1 : NameOk n.stops[k]) (h2 : fstIdx n.stops[k] n.stops = k) : NamesTo n (k + 1) := by
  intro j hj hjk
  by_cases e : j = k
  · subst e; exact ⟨h1, h2⟩
  · exact h j hj (by omega)
theorem linesTo_succ {n : NetD} {k : Nat} (hk : k < n.lines.length) (h : LinesTo n k) (h1 : LineGood n.lines[k] n.stops.length) (h2 : fstIdx n.lines[k].name (n.lines.map (·.name)) = k) : LinesTo n (k + 1) := by
  intro j hj hjk
  by_cases e : j = k
  · subst e; exact ⟨h1, h2⟩
  · exact h j hj (by omega)
theorem netGood_iff {n : NetD} (h : 2 ≤ n.stops.length ∧ n.stops.length ≤ 8 ∧ 1 ≤ n.lines.length ∧ n.lines.length ≤ 5) : NetGood n ↔ NamesTo n n.stops.length ∧ LinesTo n n.lines.length := by
  constructor
  · rintro ⟨_, h1, h2, h3, h4⟩
    refine ⟨fun j hj _ => ⟨h1 _ (List.getElem_mem hj), (nodup_first _).1 h2 j hj⟩, fun j hj _ => ⟨h3 _ (List.getElem_mem hj), ?_⟩⟩
    have := (nodup_first _).1 h4 j (by simpa using hj)
    simpa using this
  · rintro ⟨h1, h2⟩
    refine ⟨h, fun s hs => ?_, (nodup_first _).2 fun j hj => (h1 j hj hj).2, fun l hl => ?_, (nodup_first _).2 fun j hj => ?_⟩
    · obtain ⟨j, hj, rfl⟩ := List.getElem_of_mem hs; exact (h1 j hj hj).1
    · obtain ⟨j, hj, rfl⟩ := List.getElem_of_mem hl; exact (h2 j hj hj).1
    · have hj' : j < n.lines.length := by simpa using hj
      have := (h2 j hj' hj').2
      simpa using this

set_option maxRecDepth 100000 in
set_option maxHeartbeats 1000000 in
theorem l2Good_any (v : Value) (n : NetD) (w : World) (hr : NetAt w v n) (hf : NetFits n) :
    Calls Try.prog 91 #[v] w fun e w' => e = .returned (.bool (netB n)) ∧ Below w.heap.size w w' := by
  have HV := Lib.hid hr
  have HFit := Lib.hid hf
  clear hf
  obtain ⟨sv, lv, rfl, hss, hls⟩ := hr
  have HRow := Lib.hid hss
  obtain ⟨a, c, rfl, hc, hm, HC⟩ := strs_open hss
  obtain ⟨a', c', rfl, hc', hm', HC'⟩ := lines_open hls
  clear hss hls
  by_cases hlen : 2 ≤ (n.stops.length : Int) ∧ (n.stops.length : Int) ≤ 8
  · by_cases hlen' : 1 ≤ (n.lines.length : Int) ∧ (n.lines.length : Int) ≤ 5
    · have HLO := Lib.hid (netGood_iff (n := n) ⟨by omega, by omega, by omega, by omega⟩)
      obtain ⟨g1, g2⟩ := hlen
      obtain ⟨g1', g2'⟩ := hlen'
      go_enter Try.func91, Try.ntmps91
      go_wp2_with (go_at_call 92; refine (l1In_yes _ _ _ _ (by constructor <;> omega)).mono ?_; rintro e w' ⟨rfl, rfl⟩)
      go_loopw [3] (fun i wr => ∃ k : Nat, k ≤ n.stops.length ∧ i = .int .i64 k ∧ Hid (NamesTo n k) ∧
          wr.cell? ⟨w.heap.size, 0, none⟩ = some (.slice a n.stops.length c) ∧ wr.cell? ⟨w.heap.size, 1, none⟩ = some (.slice a' n.lines.length c') ∧ Below w.heap.size w wr ∧ w.heap.size < wr.heap.size)
        (fun i _ => n.stops.length - (RowKit.intOf i).toNat)
      case atStart => exact ⟨0, Nat.zero_le _, rfl, fun j hj h => by omega, by simp, by simp, (Below.refl _ _).alloc (Nat.le_refl _) _, by simp⟩
      case round =>
        obtain ⟨k, hk, rfl, HT, hb0, hb1, hbel, hsz⟩ := hrel
        by_cases hlt : k < n.stops.length
        · obtain ⟨b, off, rfl, hbl, hcx0⟩ := HC.out k hlt
          have hcx : wr.cell? ⟨b, off + k, none⟩ = some (.string n.stops[k]) := by rw [hbel.cell (p := ⟨b, off + k, none⟩) hbl]; exact hcx0
          have HNm := Lib.hid (fun W => l2Name_any n.stops[k] W (HFit.out.1 _ (List.getElem_mem hlt)))
          have HFd := Lib.hid (fun m => l2Find_any _ n.stops n.stops[k] (wr.drewN m) ((HRow.out.below rfl hbel).drewN m))
          have hk1 : (k : Int) < (n.stops.length : Int) := by omega
          clear hcx0
          by_cases hnm : NameOk n.stops[k]
          · rw [nameB_yes hnm] at HNm
            by_cases hfst : fstIdx n.stops[k] n.stops = k
            · have HT2 := Lib.hid (namesTo_succ hlt HT.out hnm hfst)
              have he : (fstIdx n.stops[k] n.stops != (k : Int)) = false := by simp [hfst]
              clear hnm hfst
              go_wp2_with fail
              go_quiet (first | (go_at_call 116; exact quietL (HNm.out _)) | (go_at_call 117; exact quietL (HFd.out _)))
              go_wp2_with fail
              go_roundw
              case rel => exact ⟨k + 1, by omega, by go_num, HT2, hb0, hb1, hbel.trans ((Dr.below ⟨_, rfl⟩).mono (by omega)), hsz⟩
              case measure => simp [RowKit.intOf]; omega
            · have HNO : Hid (¬ NetGood n) := fun h => hfst ((HLO.out.1 h).1 k hlt hlt).2
              have he : (fstIdx n.stops[k] n.stops != (k : Int)) = true := by simp [hfst]
              clear hnm hfst
              go_wp2_with fail
              go_quiet (first | (go_at_call 116; exact quietL (HNm.out _)) | (go_at_call 117; exact quietL (HFd.out _)))
              go_wp2_with fail
              go_ret
              exact ⟨by rw [netB_no HNO.out]; rfl, hbel.trans ((Dr.below ⟨_, rfl⟩).mono (by omega))⟩
          · rw [nameB_no hnm] at HNm
            have HNO : Hid (¬ NetGood n) := fun h => hnm ((HLO.out.1 h).1 k hlt hlt).1
            clear hnm
            go_wp2_with fail
            go_quiet ((go_at_call 116; exact quietL (HNm.out _)))
            go_wp2_with fail
            go_ret
            exact ⟨by rw [netB_no HNO.out]; rfl, hbel.trans ((Dr.below ⟨_, rfl⟩).mono (by omega))⟩
        · have HT2 : Hid (NamesTo n n.stops.length) := by have := HT.out; rw [show k = n.stops.length by omega] at this; exact this
          clear HT
          go_wp2_with fail
          go_loopw [4] (fun i wr => ∃ k : Nat, k ≤ n.lines.length ∧ i = .int .i64 k ∧ Hid (LinesTo n k) ∧
              wr.cell? ⟨w.heap.size, 0, none⟩ = some (.slice a n.stops.length c) ∧ wr.cell? ⟨w.heap.size, 1, none⟩ = some (.slice a' n.lines.length c') ∧ Below w.heap.size w wr ∧ w.heap.size < wr.heap.size)
            (fun i _ => n.lines.length - (RowKit.intOf i).toNat)
          case atStart => exact ⟨0, Nat.zero_le _, rfl, fun j hj h => by omega, hb0, hb1, hbel, hsz⟩
          case round =>
            clear hb0 hb1 hbel hsz
            obtain ⟨k, hk, rfl, HT, hb0, hb1, hbel, hsz⟩ := hrel
            by_cases hlt : k < n.lines.length
            · obtain ⟨b, off, rfl, hbl, hla⟩ := HC'.out k hlt
              obtain ⟨sv, rv, hx0, hx1, hx2, hlv⟩ := (hla.below rfl hbel).toV
              have hlv' := hla.toV
              have hk1 : (k : Int) < (n.lines.length : Int) := by omega
              have HG : Hid (∀ W : World, Below w.heap.size w W → LineV W (.agg #[.string n.lines[k].name, sv, rv]) n.lines[k]) := by
                intro W hW
                obtain ⟨sv', rv', y0, y1, y2, hy⟩ := hlv'
                have e1 : sv = sv' := by
                  have := hx1; rw [hbel.cell (p := ⟨b, off + k * 3 + 1, none⟩) hbl, y1] at this; exact (Option.some.inj this).symm
                have e2 : rv = rv' := by
                  have := hx2; rw [hbel.cell (p := ⟨b, off + k * 3 + 2, none⟩) hbl, y2] at this; exact (Option.some.inj this).symm
                rw [e1, e2]; exact hy.below rfl hW
              clear hla hlv hlv'
              have HLn := Lib.hid (fun W (hW : Below w.heap.size w W) => l2Line_any _ n.lines[k] n.stops.length W (HG.out W hW) (by omega) (HFit.out.2 _ (List.getElem_mem hlt)).1)
              have HLm := Lib.hid (fun W (hW : Below w.heap.size w W) => l2LineNamed_any _ n n.lines[k].name W (HV.out.below rfl hW))
              by_cases hgd : LineGood n.lines[k] n.stops.length
              · rw [lineGoodB_yes hgd] at HLn
                by_cases hfst : fstIdx n.lines[k].name (n.lines.map (·.name)) = k
                · have HT3 := Lib.hid (linesTo_succ hlt HT.out hgd hfst)
                  have he : (fstIdx n.lines[k].name (n.lines.map (·.name)) != (k : Int)) = false := by simp [hfst]
                  clear hgd hfst
                  go_wp2_with fail
                  go_region_held3 (fun w' => w'.cell? ⟨w.heap.size, 0, none⟩ = some (.slice a n.stops.length c) ∧ w'.cell? ⟨w.heap.size, 1, none⟩ = some (.slice (some ⟨b, off, none⟩) n.lines.length c') ∧
                      w'.cell? ⟨b, off + k * 3, none⟩ = some (.string n.lines[k].name) ∧ w'.cell? ⟨b, off + k * 3 + 1, none⟩ = some sv ∧ w'.cell? ⟨b, off + k * 3 + 2, none⟩ = some rv ∧ Below w.heap.size w w' ∧ w.heap.size < w'.heap.size)
                    (first | (exact ⟨hb0, hb1, hx0, hx1, hx2, hbel.drew, hsz⟩) | (exact keep7 hb (by assumption)))
                    (first | (go_at_call 118; refine (HLn.out _ (bel7 (by assumption))).mono ?_; rintro e w' ⟨rfl, hb⟩) | (go_at_call 119; refine (HLm.out _ (bel7 (by assumption))).mono ?_; rintro e w' ⟨rfl, hb⟩))
                  obtain ⟨q0, q1, q2, _, _, qb, qs⟩ := (by assumption : _ ∧ _)
                  clear hb0 hb1 hx0 hx1 hx2 hbel hsz
                  go_wp2_with fail
                  go_roundw
                  case rel => exact ⟨k + 1, by omega, by go_num, HT3, q0, q1, qb, qs⟩
                  case measure => simp [RowKit.intOf]; omega
                · have HNO : Hid (¬ NetGood n) := fun h => hfst ((HLO.out.1 h).2 k hlt hlt).2
                  have he : (fstIdx n.lines[k].name (n.lines.map (·.name)) != (k : Int)) = true := by simp [hfst]
                  clear hgd hfst
                  go_wp2_with fail
                  go_region_held3 (fun w' => w'.cell? ⟨w.heap.size, 0, none⟩ = some (.slice a n.stops.length c) ∧ w'.cell? ⟨w.heap.size, 1, none⟩ = some (.slice (some ⟨b, off, none⟩) n.lines.length c') ∧
                      w'.cell? ⟨b, off + k * 3, none⟩ = some (.string n.lines[k].name) ∧ w'.cell? ⟨b, off + k * 3 + 1, none⟩ = some sv ∧ w'.cell? ⟨b, off + k * 3 + 2, none⟩ = some rv ∧ Below w.heap.size w w' ∧ w.heap.size < w'.heap.size)
                    (first | (exact ⟨hb0, hb1, hx0, hx1, hx2, hbel.drew, hsz⟩) | (exact keep7 hb (by assumption)))
                    (first | (go_at_call 118; refine (HLn.out _ (bel7 (by assumption))).mono ?_; rintro e w' ⟨rfl, hb⟩) | (go_at_call 119; refine (HLm.out _ (bel7 (by assumption))).mono ?_; rintro e w' ⟨rfl, hb⟩))
                  obtain ⟨q0, q1, q2, _, _, qb, qs⟩ := (by assumption : _ ∧ _)
                  clear hb0 hb1 hx0 hx1 hx2 hbel hsz
                  go_wp2_with fail
                  go_ret
                  exact ⟨by rw [netB_no HNO.out]; rfl, qb⟩
              · rw [lineGoodB_no hgd] at HLn
                have HNO : Hid (¬ NetGood n) := fun h => hgd ((HLO.out.1 h).2 k hlt hlt).1
                clear hgd
                go_wp2_with fail
                refine wp_region_held_drew (S := fun w' => w'.cell? ⟨w.heap.size, 0, none⟩ = some (.slice a n.stops.length c) ∧ w'.cell? ⟨w.heap.size, 1, none⟩ = some (.slice (some ⟨b, off, none⟩) n.lines.length c') ∧
                  w'.cell? ⟨b, off + k * 3, none⟩ = some (.string n.lines[k].name) ∧ w'.cell? ⟨b, off + k * 3 + 1, none⟩ = some sv ∧ w'.cell? ⟨b, off + k * 3 + 2, none⟩ = some rv ∧ Below w.heap.size w w' ∧ w.heap.size < w'.heap.size) (by kernel_rfl) ?_ (fun hHeld => ?_)
                · exact ⟨hb0, hb1, hx0, hx1, hx2, hbel.drew, hsz⟩
                refine wpAnyH_take (i := 0) (v := ?_) (by simp only [List.getElem?_toArray, List.getElem?_cons_zero]; rfl) (by kernel_rfl) (by kernel_rfl) (by kernel_rfl) (by exact fun _ _ _ h => h) (Or.inl ⟨by rfl, ?_⟩) (by assumption) ?_
                rotate_left
                · intro w' hSw; (try dsimp only at hSw); go_simp; try with_reducible rfl
                try simp only [Act.put, List.setIfInBounds_toArray, List.set_cons_zero, List.set_cons_succ]
                refine wpAnyH_take (i := 1) (v := ?_) (by simp only [List.getElem?_toArray, List.getElem?_cons_succ, List.getElem?_cons_zero]; rfl) (by kernel_rfl) (by kernel_rfl) (by kernel_rfl) (by exact fun _ _ _ h => h) (Or.inl ⟨by rfl, ?_⟩) (by assumption) ?_
                rotate_left
                · intro w' hSw; (try dsimp only at hSw); go_simp; try with_reducible rfl
                try simp only [Act.put, List.setIfInBounds_toArray, List.set_cons_zero, List.set_cons_succ]
                refine wpAnyH_take (i := 2) (v := ?_) (by simp only [List.getElem?_toArray, List.getElem?_cons_succ, List.getElem?_cons_zero]; rfl) (by kernel_rfl) (by kernel_rfl) (by kernel_rfl) (by exact fun _ _ _ h => h) (Or.inl ⟨by rfl, ?_⟩) (by assumption) ?_
                rotate_left
                · intro w' hSw; (try dsimp only at hSw); go_simp; try with_reducible rfl
                try simp only [Act.put, List.setIfInBounds_toArray, List.set_cons_zero, List.set_cons_succ]
                refine wpAnyH_take (i := 3) (v := ?_) (by simp only [List.getElem?_toArray, List.getElem?_cons_succ, List.getElem?_cons_zero]; rfl) (by kernel_rfl) (by kernel_rfl) (by kernel_rfl) (by exact fun _ _ _ h => h) (Or.inl ⟨by rfl, ?_⟩) (by assumption) ?_
                rotate_left
                · intro w' hSw; (try dsimp only at hSw); go_simp; try with_reducible rfl
                try simp only [Act.put, List.setIfInBounds_toArray, List.set_cons_zero, List.set_cons_succ]
                refine wpAnyH_take (i := 4) (v := ?_) (by simp only [List.getElem?_toArray, List.getElem?_cons_succ, List.getElem?_cons_zero]; rfl) (by kernel_rfl) (by kernel_rfl) (by kernel_rfl) (by exact fun _ _ _ h => h) (Or.inl ⟨by rfl, ?_⟩) (by assumption) ?_
                rotate_left
                · intro w' hSw; (try dsimp only at hSw); go_simp; try with_reducible rfl
                try simp only [Act.put, List.setIfInBounds_toArray, List.set_cons_zero, List.set_cons_succ]
                refine wpAnyH_take (i := 5) (v := ?_) (by simp only [List.getElem?_toArray, List.getElem?_cons_succ, List.getElem?_cons_zero]; rfl) (by kernel_rfl) (by kernel_rfl) (by kernel_rfl) (by exact fun _ _ _ h => h) (Or.inl ⟨by rfl, ?_⟩) (by assumption) ?_
                rotate_left
                · intro w' hSw; (try dsimp only at hSw); go_simp; try with_reducible rfl
                try simp only [Act.put, List.setIfInBounds_toArray, List.set_cons_zero, List.set_cons_succ]
                refine wpAnyH_take (i := 6) (v := ?_) (by simp only [List.getElem?_toArray, List.getElem?_cons_succ, List.getElem?_cons_zero]; rfl) (by kernel_rfl) (by kernel_rfl) (by kernel_rfl) (by exact fun _ _ _ h => h) (Or.inl ⟨by rfl, ?_⟩) (by assumption) ?_
                rotate_left
                · intro w' hSw; (try dsimp only at hSw); go_simp; try with_reducible rfl
                try simp only [Act.put, List.setIfInBounds_toArray, List.set_cons_zero, List.set_cons_succ]
                refine wpAnyH_take (i := 7) (v := ?_) (by simp only [List.getElem?_toArray, List.getElem?_cons_succ, List.getElem?_cons_zero]; rfl) (by kernel_rfl) (by kernel_rfl) (by kernel_rfl) (by exact fun _ _ _ h => h) (Or.inl ⟨by rfl, ?_⟩) (by assumption) ?_
                rotate_left
                · intro w' hSw; (try dsimp only at hSw); go_simp; try with_reducible rfl
                try simp only [Act.put, List.setIfInBounds_toArray, List.set_cons_zero, List.set_cons_succ]
                refine wpAnyH_ready (rs := [8]) (by kernel_rfl) (by simp) ?_
                refine AllReadyH.cons (by simp only [List.getElem?_toArray, List.getElem?_cons_succ, List.getElem?_cons_zero]; rfl) (fun K hK => ?_) AllReadyH.nil
                go_simp
                go_at_call 118
                refine (HLn.out _ hbel.drew).mono ?_
                rintro e w' ⟨rfl, hb⟩
                go_wp2_with fail
                refine hK.out _ _ ?_ (fun hHeld8 => ?_)
                · exact keep7 hb (by assumption)
                clear hK K
                try simp only [Act.put, List.setIfInBounds_toArray, List.set_cons_zero, List.set_cons_succ]
                refine wpAnyH_take (i := 9) (v := ?_) (by simp only [List.getElem?_toArray, List.getElem?_cons_succ, List.getElem?_cons_zero]; rfl) (by kernel_rfl) (by kernel_rfl) (by kernel_rfl) (by exact fun _ _ _ h => h) (Or.inl ⟨by rfl, ?_⟩) (by assumption) ?_
                rotate_left
                · intro w' hSw; (try dsimp only at hSw); go_simp; try with_reducible rfl
                try simp only [Act.put, List.setIfInBounds_toArray, List.set_cons_zero, List.set_cons_succ]
                refine wpAnyH_take (i := 10) (v := ?_) (by simp only [List.getElem?_toArray, List.getElem?_cons_succ, List.getElem?_cons_zero]; rfl) (by kernel_rfl) (by kernel_rfl) (by kernel_rfl) (by exact fun _ _ _ h => h) (Or.inl ⟨by rfl, ?_⟩) (by assumption) ?_
                rotate_left
                · intro w' hSw; (try dsimp only at hSw); go_simp; try with_reducible rfl
                try simp only [Act.put, List.setIfInBounds_toArray, List.set_cons_zero, List.set_cons_succ]
                refine wpAnyH_take (i := 11) (v := undef) (by simp only [List.getElem?_toArray, List.getElem?_cons_succ, List.getElem?_cons_zero]; rfl) (by kernel_rfl) (by kernel_rfl) (by kernel_rfl) (by exact fun _ _ _ h => h) (Or.inr ⟨by rfl, rfl⟩) (by assumption) ?_
                try simp only [Act.put, List.setIfInBounds_toArray, List.set_cons_zero, List.set_cons_succ]
                refine wpAnyH_take (i := 12) (v := undef) (by simp only [List.getElem?_toArray, List.getElem?_cons_succ, List.getElem?_cons_zero]; rfl) (by kernel_rfl) (by kernel_rfl) (by kernel_rfl) (by exact fun _ _ _ h => h) (Or.inr ⟨by rfl, rfl⟩) (by assumption) ?_
                try simp only [Act.put, List.setIfInBounds_toArray, List.set_cons_zero, List.set_cons_succ]
                refine wpAnyH_take (i := 13) (v := undef) (by simp only [List.getElem?_toArray, List.getElem?_cons_succ, List.getElem?_cons_zero]; rfl) (by kernel_rfl) (by kernel_rfl) (by kernel_rfl) (by exact fun _ _ _ h => h) (Or.inr ⟨by rfl, rfl⟩) (by assumption) ?_
                try simp only [Act.put, List.setIfInBounds_toArray, List.set_cons_zero, List.set_cons_succ]
                refine wpAnyH_take (i := 14) (v := undef) (by simp only [List.getElem?_toArray, List.getElem?_cons_succ, List.getElem?_cons_zero]; rfl) (by kernel_rfl) (by kernel_rfl) (by kernel_rfl) (by exact fun _ _ _ h => h) (Or.inr ⟨by rfl, rfl⟩) (by assumption) ?_
                try simp only [Act.put, List.setIfInBounds_toArray, List.set_cons_zero, List.set_cons_succ]
                refine wpAnyH_take (i := 15) (v := undef) (by simp only [List.getElem?_toArray, List.getElem?_cons_succ, List.getElem?_cons_zero]; rfl) (by kernel_rfl) (by kernel_rfl) (by kernel_rfl) (by exact fun _ _ _ h => h) (Or.inr ⟨by rfl, rfl⟩) (by assumption) ?_
                try simp only [Act.put, List.setIfInBounds_toArray, List.set_cons_zero, List.set_cons_succ]
                refine wpAnyH_take (i := 16) (v := undef) (by simp only [List.getElem?_toArray, List.getElem?_cons_succ, List.getElem?_cons_zero]; rfl) (by kernel_rfl) (by kernel_rfl) (by kernel_rfl) (by exact fun _ _ _ h => h) (Or.inr ⟨by rfl, rfl⟩) (by assumption) ?_
                try simp only [Act.put, List.setIfInBounds_toArray, List.set_cons_zero, List.set_cons_succ]
                refine wpAnyH_take (i := 17) (v := undef) (by simp only [List.getElem?_toArray, List.getElem?_cons_succ, List.getElem?_cons_zero]; rfl) (by kernel_rfl) (by kernel_rfl) (by kernel_rfl) (by exact fun _ _ _ h => h) (Or.inr ⟨by rfl, rfl⟩) (by assumption) ?_
                try simp only [Act.put, List.setIfInBounds_toArray, List.set_cons_zero, List.set_cons_succ]
                refine wpAnyH_take (i := 18) (v := undef) (by simp only [List.getElem?_toArray, List.getElem?_cons_succ, List.getElem?_cons_zero]; rfl) (by kernel_rfl) (by kernel_rfl) (by kernel_rfl) (by exact fun _ _ _ h => h) (Or.inr ⟨by rfl, rfl⟩) (by assumption) ?_
                try simp only [Act.put, List.setIfInBounds_toArray, List.set_cons_zero, List.set_cons_succ]
                refine wpAnyH_take (i := 19) (v := undef) (by simp only [List.getElem?_toArray, List.getElem?_cons_succ, List.getElem?_cons_zero]; rfl) (by kernel_rfl) (by kernel_rfl) (by kernel_rfl) (by exact fun _ _ _ h => h) (Or.inr ⟨by rfl, rfl⟩) (by assumption) ?_
                try simp only [Act.put, List.setIfInBounds_toArray, List.set_cons_zero, List.set_cons_succ]
                refine wpAnyH_take (i := 20) (v := undef) (by simp only [List.getElem?_toArray, List.getElem?_cons_succ, List.getElem?_cons_zero]; rfl) (by kernel_rfl) (by kernel_rfl) (by kernel_rfl) (by exact fun _ _ _ h => h) (Or.inr ⟨by rfl, rfl⟩) (by assumption) ?_
                try simp only [Act.put, List.setIfInBounds_toArray, List.set_cons_zero, List.set_cons_succ]
                refine wpAnyH_take (i := 21) (v := ?_) (by simp only [List.getElem?_toArray, List.getElem?_cons_succ, List.getElem?_cons_zero]; rfl) (by kernel_rfl) (by kernel_rfl) (by kernel_rfl) (by exact fun _ _ _ h => h) (Or.inl ⟨by rfl, ?_⟩) (by assumption) ?_
                rotate_left
                · intro w' hSw; (try dsimp only at hSw); go_simp; try with_reducible rfl
                try simp only [Act.put, List.setIfInBounds_toArray, List.set_cons_zero, List.set_cons_succ]
                refine wpAnyH_done (by kernel_rfl) ?_ _
                obtain ⟨q0, q1, q2, _, _, qb, qs⟩ := hHeld8
                clear hb0 hb1 hx0 hx1 hx2 hbel hsz hHeld
                go_wp2_with fail
                go_ret
                exact ⟨by rw [netB_no HNO.out]; rfl, qb⟩
            · have HYES : Hid (NetGood n) := HLO.out.2 ⟨HT2.out, by have := HT.out; rw [show k = n.lines.length by omega] at this; exact this⟩
              go_wp2_with fail
              go_ret
              exact ⟨by rw [netB_yes HYES.out]; rfl, hbel⟩
    · have HNO : Hid (¬ NetGood n) := fun h => hlen' (by have := h.1; omega)
      obtain ⟨g1, g2⟩ := hlen
      have HI := Lib.hid (fun W => l1In_no _ _ _ W hlen')
      clear hlen'
      go_enter Try.func91, Try.ntmps91
      go_wp2_with (go_at_call 92; first | ((with_reducible refine (HI.out _).mono ?_); rintro e w' ⟨rfl, rfl⟩) | (refine (l1In_yes _ _ _ _ (by constructor <;> omega)).mono ?_; rintro e w' ⟨rfl, rfl⟩))
      go_ret
      exact ⟨by rw [netB_no HNO.out]; rfl, (Below.refl _ _).alloc (Nat.le_refl _) _⟩
  · have HNO : Hid (¬ NetGood n) := fun h => hlen (by have := h.1; omega)
    have HI := Lib.hid (fun W => l1In_no _ _ _ W hlen)
    clear hlen
    go_enter Try.func91, Try.ntmps91
    go_wp2_with (go_at_call 92; ((with_reducible refine (HI.out _).mono ?_); rintro e w' ⟨rfl, rfl⟩))
    go_ret
    exact ⟨by rw [netB_no HNO.out]; rfl, (Below.refl _ _).alloc (Nat.le_refl _) _⟩
end Go.Proofs.Ytehpeifaknbcnaa

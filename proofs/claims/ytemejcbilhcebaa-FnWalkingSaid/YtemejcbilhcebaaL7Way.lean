import Derived.Test.YtemejcbilhcebaaWayList
import Derived.Test.YtemejcbilhcebaaMk44
import Derived.Test.YtemejcbilhcebaaL2Own
import Derived.Test.YtemejcbilhcebaaUselessWalks
namespace Go.Proofs.Ytemejcbilhcebaa
open Go.RowKit
set_option linter.unusedVariables false
set_option linter.unusedSimpArgs false

theorem l1LeastN_any (a b : Nat) (w : World) : Calls Try.prog 120 #[.int .i64 a, .int .i64 b] w fun e w' => e = .returned (.int .i64 ((min a b : Nat) : Int)) ∧ w = w' := by
  by_cases h : (a : Int) < (b : Int)
  · rw [show min a b = a by omega]
    go_enter Try.func120, Try.ntmps120
    go_wp2
    go_ret
    exact ⟨rfl, rfl⟩
  · rw [show min a b = b by omega]
    go_enter Try.func120, Try.ntmps120
    go_wp2
    go_ret
    exact ⟨rfl, rfl⟩
def MatchW (x : WlkD) (a b : Nat) : Prop := x.a = ((min a b : Nat) : Int) ∧ x.b = ((max a b : Nat) : Int)
theorem minsI_hit {a b : Nat} : ∀ {ws : List WlkD} {k : Nat} (hk : k < ws.length), (∀ j (h : j < ws.length), j < k → ¬ MatchW (ws[j]'h) a b) → MatchW ws[k] a b → minsI ws a b = ws[k].m
  | x :: ws, 0, hk, _, hm => by
    unfold minsI
    rw [List.find?_cons_of_pos (by have hm : MatchW x a b := hm; simp [hm.1, hm.2])]
    rfl
  | x :: ws, k + 1, hk, hn, hm => by
    have h0 := hn 0 (by simp) (by omega)
    have ih := minsI_hit (ws := ws) (k := k) (by simpa using hk) (fun j h hj => by have := hn (j + 1) (by simpa using h) (by omega); simpa using this) (by simpa using hm)
    unfold minsI at ih ⊢
    rw [List.find?_cons_of_neg (by intro h; apply h0; simpa [MatchW] using h)]
    simpa using ih
theorem minsI_miss {a b : Nat} {ws : List WlkD} (hn : ∀ j (h : j < ws.length), j < ws.length → ¬ MatchW (ws[j]'h) a b) : minsI ws a b = -1 := by
  unfold minsI
  rw [List.find?_eq_none.2 (fun x hx => by
    obtain ⟨j, hj, rfl⟩ := List.getElem_of_mem hx
    have := hn j hj hj
    unfold MatchW at this
    simpa using this)]
  rfl

set_option maxRecDepth 100000 in
set_option maxHeartbeats 2000000 in
theorem l7Minutes_any (lv : Value) (ws : List WlkD) (a b : Nat) (w : World) (hl : WalksAt w lv ws) (hn : ws.length ≤ 1048576) :
    Calls Try.prog 111 #[lv, .int .i64 a, .int .i64 b] w fun e w' => e = .returned (.int .i64 (minsI ws a b)) ∧ Below w.heap.size w w' := by
  have HL := Lib.hid hl
  obtain ⟨lb, ld, rfl⟩ := WalkS_open hl
  clear hl
  have HM1 := Lib.hid (fun W => l1LeastN_any a b W)
  have HM2 := Lib.hid (fun W => l1MostN_any a b W)
  have HHit := Lib.hid (fun k (hk : k < ws.length) (h1 : ∀ j (h : j < ws.length), j < k → ¬ MatchW (ws[j]'h) a b) (h2 : MatchW ws[k] a b) => minsI_hit hk h1 h2)
  have HMiss := Lib.hid (fun (hn : ∀ j (h : j < ws.length), j < ws.length → ¬ MatchW (ws[j]'h) a b) => minsI_miss hn)
  go_enter Try.func111, Try.ntmps111
  go_wp2_with fail
  go_loopw [7] (fun i wr => ∃ k : Nat, k ≤ ws.length ∧ i = .int .i64 k ∧ Hid (∀ j (h : j < ws.length), j < k → ¬ MatchW (ws[j]'h) a b) ∧ Hid (Below w.heap.size w wr)) (fun i _ => ws.length - (RowKit.intOf i).toNat)
  case atStart => exact ⟨0, Nat.zero_le _, rfl, (fun j h hj => by omega), Below.refl _ _⟩
  case round =>
    obtain ⟨k, hk, rfl, HN, HB⟩ := hrel
    by_cases hlt : k < ws.length
    · obtain ⟨g, go, rfl, hgb, y0, y1, y2⟩ := walk_at (HL.out.below rfl HB.out) k hlt
      have hk1 : (k : Int) < (ws.length : Int) := by omega
      have HH := Lib.hid (HHit.out k hlt HN.out)
      have HNext : Hid (¬ (ws[k].a = ((min a b : Nat) : Int) ∧ ws[k].b = ((max a b : Nat) : Int)) → ∀ j (h : j < ws.length), j < k + 1 → ¬ MatchW (ws[j]'h) a b) := fun h j hj hjk => by
        by_cases e : j = k
        · subst e; exact h
        · exact HN.out j hj (by omega)
      clear HN HHit HMiss
      generalize ws[k] = x at *
      obtain ⟨xa, xb, xm⟩ := x
      unfold MatchW at HH
      simp only at *
      generalize ((min a b : Nat) : Int) = mi at *
      generalize ((max a b : Nat) : Int) = ma at *
      by_cases c1 : xa = mi
      · have d1 : (xa == mi) = true := by simpa using c1
        by_cases c2 : xb = ma
        · have d2 : (xb == ma) = true := by simpa using c2
          have HR := Lib.hid (HH.out ⟨c1, c2⟩)
          clear HH HNext c1 c2
          go_wp2_with fail
          go_quiet (first | (go_at_call 120; exact quietL (HM1.out _)) | (go_at_call 81; exact quietL (HM2.out _)))
          go_wp2_with fail
          go_ret
          exact ⟨ret_int HR.out.symm, below_drewN HB.out _⟩
        · have d2 : (xb == ma) = false := by simpa using c2
          have HN2 := Lib.hid (HNext.out (fun h => c2 h.2))
          clear HH HNext c1 c2
          go_wp2_with fail
          go_quiet (first | (go_at_call 120; exact quietL (HM1.out _)) | (go_at_call 81; exact quietL (HM2.out _)))
          go_wp2_with fail
          go_roundw
          case rel => exact ⟨k + 1, by omega, by go_num, HN2, below_drewN HB.out _⟩
          case measure => simp [RowKit.intOf]; omega
      · have d1 : (xa == mi) = false := by simpa using c1
        have HN2 := Lib.hid (HNext.out (fun h => c1 h.1))
        clear HH HNext c1
        go_wp2_with fail
        go_quiet (first | (go_at_call 120; exact quietL (HM1.out _)) | (go_at_call 81; exact quietL (HM2.out _)))
        go_wp2_with fail
        go_roundw
        case rel => exact ⟨k + 1, by omega, by go_num, HN2, below_drewN HB.out _⟩
        case measure => simp [RowKit.intOf]; omega
    · obtain rfl : k = ws.length := by omega
      have HR := Lib.hid (HMiss.out HN.out)
      go_wp2_with fail
      go_ret
      exact ⟨ret_int HR.out.symm, HB.out⟩

def gW (ws : List WlkD) (n dst k : Nat) (q : Chn) (m : Int) (s : Nat) : Chn := if minsI ws (sOf q) s < 0 ∨ minsI ws (sOf q) s > m ∨ s ∈ stopsOf q then [] else wayF ws n dst k ((s, mOf q + (minsI ws (sOf q) s).toNat) :: q) (m - minsI ws (sOf q) s)
theorem wayF_succ (ws : List WlkD) (n dst k : Nat) (q : Chn) (m : Int) : wayF ws n dst (k + 1) q m = firstNe (gW ws n dst k q m) (List.range n) := rfl
theorem firstNe_drop {g : Nat → Chn} {n j : Nat} (hj : j < n) (he : g j = []) : firstNe g ((List.range n).drop j) = firstNe g ((List.range n).drop (j + 1)) := by
  rw [List.drop_eq_getElem_cons (by simpa using hj)]
  simp only [List.getElem_range]
  unfold firstNe
  rw [if_pos (by simp [he])]
  cases (List.range n).drop (j + 1) <;> rfl
theorem firstNe_hit {g : Nat → Chn} {n j : Nat} (hj : j < n) (he : g j ≠ []) : firstNe g ((List.range n).drop j) = g j := by
  rw [List.drop_eq_getElem_cons (by simpa using hj)]
  simp only [List.getElem_range]
  unfold firstNe
  rw [if_neg (by simpa using he)]
theorem mem_fwI {p : Chn} {s : Nat} : ((s : Nat) : Int) ∈ fwI p ↔ s ∈ stopsOf p := by
  unfold fwI fw
  rw [List.mem_map]
  constructor
  · rintro ⟨a, ha, he⟩
    obtain rfl : a = s := by omega
    exact List.mem_reverse.1 ha
  · intro h; exact ⟨s, List.mem_reverse.2 h, rfl⟩
theorem fwI_last {q : Chn} (hq : q ≠ []) : (fwI q)[q.length - 1]? = some ((sOf q : Nat) : Int) := by
  match q, hq with
  | x :: q, _ =>
    rw [fwI_cons, List.length_cons, Nat.add_sub_cancel, List.getElem?_append_right (by rw [fwI_len]; exact Nat.le_refl _), fwI_len, Nat.sub_self]
    rfl
theorem minsI_le {n : Nat} {ws : List WlkD} (hv : WksOk n ws) (a b : Nat) : minsI ws a b ≤ 120 := by
  by_cases h : 0 ≤ minsI ws a b
  · obtain ⟨x, hx, _, he⟩ := minsI_mem hv h
    have := (hv.each x hx).2.2.2.2; omega
  · omega

set_option maxRecDepth 100000 in
set_option maxHeartbeats 4000000 in
theorem l7Way_any (n dst : Nat) (ws : List WlkD) (hv : WksOk n ws) (hn8 : n ≤ 8) (W0 : World) (lv : Value) (hl : WalksAt W0 lv ws) (B : Nat) :
    ∀ (k : Nat) (w : World) (q : Chn) (qv : Value) (m : Int), Below W0.heap.size W0 w → B ≤ w.heap.size → w.ownsRow B 3 1 qv q.length (ints (fwI q)) → q ≠ [] → q.length + k ≤ 1000 → 0 ≤ m → m ≤ 100000 →
      Calls Try.prog 86 #[.int .i64 n, lv, qv, .int .i64 dst, .int .i64 k, .int .i64 m] w fun e w' => ∃ u, e = .returned u ∧ w'.ownsRow B 3 1 u (wayF ws n dst k q m).length (ints (fwI (wayF ws n dst k q m))) ∧ Below w.heap.size w w' := by
  have HL := Lib.hid hl
  have HV := Lib.hid hv
  have hwl := hv.len
  obtain ⟨lb, ld, rfl⟩ := WalkS_open hl
  clear hl hv
  intro k
  induction k with
  | zero =>
    intro w q qv m hb0 hB hown hq hlen hm0 hm1
    obtain ⟨qa, qc, rfl⟩ := own_shape hown
    have HO := Lib.hid hown
    obtain ⟨g, rfl, -, hgl, -⟩ := own_cells hown (by cases q with | nil => exact absurd rfl hq | cons a b => simp) (fwI_len q)
    have hqpos : 0 < q.length := by cases q with | nil => exact absurd rfl hq | cons a b => simp
    have hc : w.cell? ⟨g, q.length - 1, none⟩ = some (.int .i64 (sOf q : Nat)) := by
      rw [hown.cellAt (q.length - 1) (by omega)]; unfold ints; rw [List.getElem?_map, fwI_last hq]; rfl
    have HW : Hid (wayF ws n dst 0 q m = if sOf q = dst ∧ m = 0 then q else []) := rfl
    rw [HW.out]
    have hw1 : IntKind.i64.wrap ((q.length : Int) - 1) = (((q.length - 1 : Nat)) : Int) := by rw [show (q.length : Int) - 1 = ((q.length - 1 : Nat) : Int) by omega]; exact IntWalk.i64_in _ (by omega)
    have hi1 : ((q.length - 1 : Nat) : Int) < (q.length : Int) := by omega
    have hi0 : (0 : Int) ≤ ((q.length - 1 : Nat) : Int) := by omega
    clear hown hb0 HW hq
    generalize hpl : q.length - 1 = pl at *
    clear hpl
    by_cases h1 : sOf q = dst
    · by_cases h2 : m = 0
      · rw [if_pos ⟨h1, h2⟩]
        have d1 : (((sOf q : Nat) : Int) == (dst : Int)) = true := by simp [h1]
        have d2 : (m == 0) = true := by simp [h2]
        clear h1 h2
        go_enter Try.func86, Try.ntmps86
        go_wp2_with fail
        go_ret
        exact ⟨_, rfl, HO.out, Below.refl _ _⟩
      · rw [if_neg (fun h => h2 h.2)]
        have d1 : (((sOf q : Nat) : Int) == (dst : Int)) = true := by simp [h1]
        have d2 : (m == 0) = false := by simp [h2]
        clear h1 h2
        go_enter Try.func86, Try.ntmps86
        go_wp2_with fail
        go_ret
        refine ⟨_, rfl, ?_, (Below.refl _ _).alloc (Nat.le_refl _) _⟩
        have h := World.ownsRow_lit (base := B) (e := 3) (size := 1) w #[] 0 hB (by decide) (by simp)
        simpa [ints, fwI, fw, stopsOf] using h
    · rw [if_neg (fun h => h1 h.1)]
      have d1 : (((sOf q : Nat) : Int) == (dst : Int)) = false := by simp; omega
      clear h1
      go_enter Try.func86, Try.ntmps86
      go_wp2_with fail
      go_ret
      refine ⟨_, rfl, ?_, (Below.refl _ _).alloc (Nat.le_refl _) _⟩
      have h := World.ownsRow_lit (base := B) (e := 3) (size := 1) w #[] 0 hB (by decide) (by simp)
      simpa [ints, fwI, fw, stopsOf] using h
  | succ k ih =>
    intro w q qv m hb0 hB hown hq hlen hm0 hm1
    have HIH := Lib.hid ih
    have HB0 := Lib.hid hb0
    obtain ⟨qa, qc, rfl⟩ := own_shape hown
    have HO := Lib.hid hown
    obtain ⟨g, rfl, hgB, hgl, -⟩ := own_cells hown (by cases q with | nil => exact absurd rfl hq | cons a b => simp) (fwI_len q)
    have hqpos : 0 < q.length := by cases q with | nil => exact absurd rfl hq | cons a b => simp
    have hc : w.cell? ⟨g, q.length - 1, none⟩ = some (.int .i64 (sOf q : Nat)) := by
      rw [hown.cellAt (q.length - 1) (by omega)]; unfold ints; rw [List.getElem?_map, fwI_last hq]; rfl
    have HWs : Hid (wayF ws n dst (k + 1) q m = firstNe (gW ws n dst k q m) ((List.range n).drop 0)) := wayF_succ ws n dst k q m
    have hw1 : IntKind.i64.wrap ((q.length : Int) - 1) = (((q.length - 1 : Nat)) : Int) := by rw [show (q.length : Int) - 1 = ((q.length - 1 : Nat) : Int) by omega]; exact IntWalk.i64_in _ (by omega)
    have hi1 : ((q.length - 1 : Nat) : Int) < (q.length : Int) := by omega
    have hi0 : (0 : Int) ≤ ((q.length - 1 : Nat) : Int) := by omega
    have dk : (((k + 1 : Nat) : Int) == 0) = false := by simp; omega
    have dk2 : ((k : Int) + 1 == 0) = false := by simp; omega
    have HOwnL := Lib.hid (fun (W : World) (hW : Below w.heap.size w W) => l1Own_any (.slice (some ⟨g, 0, none⟩) q.length qc) (fwI q) W (rowAt_own (own_later hown hW)) (by rw [fwI_len]; exact hqpos) (by rw [fwI_len]; omega))
    have HHas := Lib.hid (fun (W : World) (hW : Below w.heap.size w W) (x : Int) => l1Has_any (.slice (some ⟨g, 0, none⟩) q.length qc) (fwI q) x W (rowAt_own (own_later hown hW)))
    rw [fwI_len] at HOwnL
    clear hown hb0 ih hq
    generalize hpl : q.length - 1 = pl at *
    clear hpl
    obtain ⟨i0, hi0', hz0, hz1, hz2⟩ := info_parts infoInt
    go_enter Try.func86, Try.ntmps86
    go_wp2_with fail
    go_loopw [14] (fun i wr => ∃ j : Nat, j ≤ n ∧ i = .int .i64 j ∧ Hid (wayF ws n dst (k + 1) q m = firstNe (gW ws n dst k q m) ((List.range n).drop j)) ∧ Hid (Below w.heap.size w wr)) (fun i _ => n - (RowKit.intOf i).toNat)
    case atStart => exact ⟨0, Nat.zero_le _, rfl, HWs, Below.refl _ _⟩
    case round =>
      clear HWs hc
      obtain ⟨j, hj, rfl, HF, HB⟩ := hrel
      by_cases hlt : j < n
      · have hj1 : (j : Int) < (n : Int) := by omega
        have HMin := Lib.hid (l7Minutes_any (.slice lb ws.length ld) ws (sOf q) j wr (HL.out.below rfl (HB0.out.trans (HB.out.mono HB0.out.size))) (by omega))
        have hmle := minsI_le HV.out (sOf q) j
        have HG : Hid (gW ws n dst k q m j = if minsI ws (sOf q) j < 0 ∨ minsI ws (sOf q) j > m ∨ j ∈ stopsOf q then [] else wayF ws n dst k ((j, mOf q + (minsI ws (sOf q) j).toNat) :: q) (m - minsI ws (sOf q) j)) := rfl
        have HDrop : Hid (gW ws n dst k q m j = [] → wayF ws n dst (k + 1) q m = firstNe (gW ws n dst k q m) ((List.range n).drop (j + 1))) := fun h => by rw [HF.out]; exact firstNe_drop hlt h
        have HHit : Hid (gW ws n dst k q m j ≠ [] → wayF ws n dst (k + 1) q m = gW ws n dst k q m j) := fun h => by rw [HF.out]; exact firstNe_hit hlt h
        clear HF
        generalize minsI ws (sOf q) j = mm at *
        go_wp2_with fail
        go_at_call 111
        refine HMin.out.mono ?_
        rintro e w1 ⟨rfl, hb1⟩
        have HB1 : Hid (Below w.heap.size w w1) := HB.out.trans (hb1.mono HB.out.size)
        clear hb1 HB HMin
        by_cases c1 : mm < 0
        · have d1 : decide (mm < 0) = true := decide_eq_true c1
          have HN := Lib.hid (HDrop.out (by rw [HG.out, if_pos (.inl c1)]))
          clear HDrop HHit HG c1
          go_wp2_with fail
          refine ⟨?_, ?measure⟩
          repeat apply Exists.intro
          refine ⟨?rel, rfl⟩
          case rel => exact ⟨j + 1, by omega, by go_num, HN, HB1⟩
          case measure => simp [RowKit.intOf]; omega
        · have d1 : decide (mm < 0) = false := decide_eq_false c1
          by_cases c2 : m < mm
          · have d2 : decide (m < mm) = true := decide_eq_true c2
            have HN := Lib.hid (HDrop.out (by rw [HG.out, if_pos (.inr (.inl c2))]))
            clear HDrop HHit HG c1 c2
            go_wp2_with fail
            refine ⟨?_, ?measure⟩
            repeat apply Exists.intro
            refine ⟨?rel, rfl⟩
            case rel => exact ⟨j + 1, by omega, by go_num, HN, HB1⟩
            case measure => simp [RowKit.intOf]; omega
          · have d2 : decide (m < mm) = false := decide_eq_false c2
            have HHj := Lib.hid (HHas.out w1 HB1.out (j : Int))
            by_cases c3 : j ∈ stopsOf q
            · have HN := Lib.hid (HDrop.out (by rw [HG.out, if_pos (.inr (.inr c3))]))
              rw [inB_yes (mem_fwI.2 c3)] at HHj
              clear HDrop HHit HG c1 c2 c3
              go_wp2_with fail
              go_at_call 73
              refine HHj.out.mono ?_
              rintro e w2 ⟨rfl, rfl⟩
              go_wp2_with fail
              refine ⟨?_, ?measure⟩
              repeat apply Exists.intro
              refine ⟨?rel, rfl⟩
              case rel => exact ⟨j + 1, by omega, by go_num, HN, HB1⟩
              case measure => simp [RowKit.intOf]; omega
            · have HG2 : Hid (gW ws n dst k q m j = wayF ws n dst k ((j, mOf q + mm.toNat) :: q) (m - mm)) := by
                show _ = _
                rw [HG.out, if_neg (fun hh => hh.elim c1 (fun hh => hh.elim c2 c3))]
              rw [inB_no (fun h => c3 (mem_fwI.1 h))] at HHj
              have HLq : Hid (fwI ((j, mOf q + mm.toNat) :: q) = fwI q ++ [(j : Int)]) := fwI_cons _ _
              have hmw : IntKind.i64.wrap (m - mm) = m - mm := IntWalk.i64_in _ (by omega)
              have hkw : IntKind.i64.wrap (((k + 1 : Nat) : Int) - 1) = (k : Int) := by rw [show ((k + 1 : Nat) : Int) - 1 = k by omega]; exact IntWalk.i64_in _ (by omega)
              have hkw2 : IntKind.i64.wrap ((k : Int) + 1 - 1) = (k : Int) := by rw [show (k : Int) + 1 - 1 = k by omega]; exact IntWalk.i64_in _ (by omega)
              have hkw3 : IntKind.i64.wrap (k : Int) = (k : Int) := IntWalk.i64_in _ (by omega)
              have HOL := Lib.hid (HOwnL.out w1 HB1.out)
              have HNew := Lib.hid (fun (W : World) (qv : Value) h1 h2 h3 => HIH.out W ((j, mOf q + mm.toNat) :: q) qv (m - mm) h1 h2 h3 (by simp) (by simp only [List.length_cons]; omega) (by omega) (by omega))
              rw [← HG2.out] at HNew
              clear HG HG2 c1 c2 c3
              generalize hgc : gW ws n dst k q m j = G at *
              clear hgc
              go_wp2_with fail
              go_at_call 73
              refine HHj.out.mono ?_
              rintro e w2 ⟨rfl, rfl⟩
              go_wp2_with fail
              go_at_call 99
              refine HOL.out.mono ?_
              rintro e w2 ⟨g2, c2, rfl, ho2, hb2⟩
              have hB1 : B ≤ w1.heap.size := Nat.le_trans hB HB1.out.size
              have HO2 := Lib.hid (own_base ho2 hB1)
              have HB2 : Hid (Below w.heap.size w w2) := HB1.out.trans (hb2.mono HB1.out.size)
              have hB2 : B ≤ w2.heap.size := Nat.le_trans hB HB2.out.size
              have hg2l : w1.heap.size ≤ g2 := (ho2.lt g2 rfl).1
              have hw1l := HB1.out.size
              clear ho2 hb2 HHj HOL
              go_wp2_with (at_builtin; refine wpList_append_own_at _ rfl _ _ 34 rfl B 3 i0 (.int .i64 0) 1 8 Try.underlying34 hi0' hz0 hz1 hz2 rfl (by decide) _ q.length _ rfl (HO2.out.alloc _) ⟨w2.heap.size, 0, none⟩ 1 1 [.int .i64 (j : Int)] rfl rfl ?c1 ?c2 ?c3 ?c4 ?c5 ?_)
              case c1 => exact one_new _ _
              case c2 => intro u hu; simp at hu; subst hu; rfl
              case c3 => unfold maxLen; omega
              case c4 => omega
              case c5 => simp; omega
              intro v' w3 hown' hgrow _ _
              have hO3 : w3.ownsRow B 3 1 v' ((j, mOf q + mm.toNat) :: q).length (ints (fwI ((j, mOf q + mm.toNat) :: q))) := by rw [HLq.out]; simpa [ints] using hown'
              have HB3 : Hid (Below w.heap.size w w3) := (HB2.out.alloc HB2.out.size _).grown hgrow (by have := HB2.out.size; simp; omega) (fun g' hg' => by
                simp [Value.ownBlock] at hg'
                omega)
              have hB3 : B ≤ w3.heap.size := Nat.le_trans hB HB3.out.size
              have HCall := Lib.hid (HNew.out w3 v' (HB0.out.trans (HB3.out.mono HB0.out.size)) hB3 hO3)
              clear hown' hgrow hO3 HNew HB2 HO2
              go_wp2_with fail
              go_at_call 86
              refine HCall.out.mono ?_
              rintro e w4 ⟨u, rfl, ho4, hb4⟩
              have HB4 : Hid (Below w.heap.size w w4) := HB3.out.trans (hb4.mono HB3.out.size)
              have HO4 := Lib.hid ho4
              obtain ⟨ua, uc, rfl⟩ := own_shape ho4
              clear hb4 ho4 HCall HB3
              by_cases hGe : G = []
              · have HN := Lib.hid (HDrop.out hGe)
                have dl : decide ((0 : Int) < (G.length : Int)) = false := by simp [hGe]
                have dl2 : decide (0 < G.length) = false := by simp [hGe]
                clear HDrop HHit hGe
                go_wp2_with fail
                refine ⟨?_, ?measure⟩
                repeat apply Exists.intro
                refine ⟨?rel, rfl⟩
                case rel => exact ⟨j + 1, by omega, by go_num, HN, HB4⟩
                case measure => simp [RowKit.intOf]; omega
              · have HE := Lib.hid (HHit.out hGe)
                have hpos : 0 < G.length := List.length_pos_iff.2 hGe
                have dl : decide ((0 : Int) < (G.length : Int)) = true := decide_eq_true (by omega)
                have dl2 : decide (0 < G.length) = true := decide_eq_true hpos
                clear HDrop HHit hGe
                go_wp2_with fail
                go_ret
                refine ⟨_, rfl, ?_, HB4.out⟩
                rw [HE.out]
                exact HO4.out
      · obtain rfl : j = n := by omega
        have HN : Hid (wayF ws j dst (k + 1) q m = []) := by
          show _ = _
          rw [HF.out, List.drop_of_length_le (by simp)]; rfl
        go_wp2_with fail
        go_ret
        have hBr : B ≤ wr.heap.size := Nat.le_trans hB HB.out.size
        refine ⟨_, rfl, ?_, HB.out.alloc HB.out.size _⟩
        rw [HN.out]
        have h := World.ownsRow_lit (base := B) (e := 3) (size := 1) wr #[] 0 hBr (by decide) (by simp)
        simpa [ints, fwI, fw, stopsOf] using h
end Go.Proofs.Ytemejcbilhcebaa

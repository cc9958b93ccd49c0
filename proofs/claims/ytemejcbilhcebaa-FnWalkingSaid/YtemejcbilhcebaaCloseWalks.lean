import Derived.Test.YtemejcbilhcebaaUselessWalks
namespace Go.Proofs.Ytemejcbilhcebaa
open Go.RowKit
set_option linter.unusedVariables false
set_option linter.unusedSimpArgs false

def clR (R : List Int) (a : Nat) : Nat → List WlkD
  | 0 => []
  | j + 1 => clR R a j ++ (if 0 < wat R (a + 1 + j) then [⟨(a : Int), ((a + 1 + j : Nat) : Int), wat R (a + 1 + j)⟩] else [])
noncomputable def clF (ws : List WlkD) (N : Nat) : Nat → List WlkD
  | 0 => []
  | a + 1 => clF ws N a ++ clR (wt ws N a) a (N - (a + 1))
theorem clR_len (R : List Int) (a : Nat) : ∀ j, (clR R a j).length ≤ j
  | 0 => Nat.le_refl _
  | j + 1 => by
    have := clR_len R a j
    simp only [clR, List.length_append]
    split <;> simp <;> omega
theorem clF_len (ws : List WlkD) (N : Nat) : ∀ a, (clF ws N a).length ≤ a * N
  | 0 => by simp [clF]
  | a + 1 => by
    have h1 := clF_len ws N a
    have h2 := clR_len (wt ws N a) a (N - (a + 1))
    simp only [clF, List.length_append]
    have : (a + 1) * N = a * N + N := Nat.succ_mul a N
    omega
theorem clR_yes {R : List Int} {a j : Nat} (h : 0 < wat R (a + 1 + j)) : clR R a (j + 1) = clR R a j ++ [⟨(a : Int), ((a + 1 + j : Nat) : Int), wat R (a + 1 + j)⟩] := by simp [clR, h]
theorem clR_no {R : List Int} {a j : Nat} (h : ¬ 0 < wat R (a + 1 + j)) : clR R a (j + 1) = clR R a j := by simp only [clR, if_neg h, List.append_nil]
theorem way_pos {n f : Nat} {ws : List WlkD} (hv : WksOk n ws) {s k : Nat} (h : Way ws f s k) (hs : s ≠ f) : 1 ≤ k := by
  cases h with
  | here => exact absurd rfl hs
  | go h hx ht => have := (hv.each _ hx).2.2.2.1; omega

theorem wt_other {n f : Nat} {ws : List WlkD} (hv : WksOk n ws) (hf : f < n) {s : Nat} (hs : s < n) (hne : s ≠ f) : wat (wt ws n f) s = -1 ∨ 0 < wat (wt ws n f) s := by
  have h := wt_isWT hv hf
  have hl : s < (wt ws n f).length := by rw [h.1]; exact hs
  rw [wat_at hl]
  rcases h.2 s hl with ⟨e, _⟩ | ⟨k, e, hk, _⟩
  · exact .inl e
  · have := way_pos hv hk hne; exact .inr (by rw [e]; omega)
noncomputable def clAll (n : NetD) (ws : List WlkD) : List WlkD := clF ws n.stops.length n.stops.length
noncomputable def clOk (n : NetD) (ws : List WlkD) : Bool := walksB n ws && walksB n (clAll n ws)
noncomputable def clAns (n : NetD) (ws : List WlkD) : List WlkD := if clOk n ws then clAll n ws else []

def WlksB (B : Nat) (res : List WlkD) (b : Bool) (e : Ending) (w' : World) : Prop := ∃ v, e = .returned (.tuple #[v, .bool b]) ∧ WalksIn B w'.heap.size w' v res
theorem lit_walks {B : Nat} (w : World) (hB : B ≤ w.heap.size) : (w.alloc (.cells #[] 67)).ownsRow B 67 3 (.slice (some ⟨w.heap.size, 0, none⟩) 0 0) 0 (wlkC []) := by
  have h := World.ownsRow_lit (base := B) (e := 67) (size := 3) w #[] 0 hB (by decide) (by simp)
  simpa [wlkC] using h
set_option maxRecDepth 100000 in
set_option maxHeartbeats 4000000 in
theorem implClose_any (nv lv : Value) (n : NetD) (ws : List WlkD) (w : World) (hr : NetAt w nv n) (hl : WalksAt w lv ws) (hf : NetFits n) :
    Calls Try.prog 37 #[nv, lv] w fun e w' => WlksB w.heap.size (clAns n ws) (clOk n ws) e w' ∧ Below w.heap.size w w' := by
  have HW := Lib.hid (fun W (h : Below w.heap.size w W) => implWalks_any nv lv n ws W (hr.below rfl h) (hl.below rfl h) hf)
  have HW2 := Lib.hid (fun W (h : Below w.heap.size w W) u cl (hu : WalksAt W u cl) => implWalks_any nv u n cl W (hr.below rfl h) hu hf)
  have HL := Lib.hid hl
  unfold clAns clOk
  cases hw : walksB n ws with
  | false =>
    rw [hw] at HW
    simp only [Bool.false_eq_true, if_false, Bool.false_and]
    obtain ⟨a, c, a', c', rfl, -, -⟩ := net_open hr
    obtain ⟨lb, ld, rfl⟩ := WalkS_open hl
    clear hw hr hl hf HW2
    go_enter Try.func37, Try.ntmps37
    go_wp2_with fail
    go_at_call 35
    refine (HW.out _ ((Below.refl _ _).alloc (Nat.le_refl _) _)).mono ?_
    rintro e w1 ⟨rfl, hb1⟩
    have p0 : w1.cell? ⟨w.heap.size, 0, none⟩ = some (.slice a n.stops.length c) := bkeep hb1 (by go_simp)
    have p1 : w1.cell? ⟨w.heap.size, 1, none⟩ = some (.slice a' n.lines.length c') := bkeep hb1 (by go_simp)
    have HB1 : Hid (Below w.heap.size w w1 ∧ w.heap.size < w1.heap.size) := ⟨((Below.refl _ _).alloc (Nat.le_refl _) _).trans (hb1.mono (by simp)), by have := hb1.size; simp at this; omega⟩
    clear hb1
    go_wp2_with fail
    go_ret2
    exact ⟨⟨_, rfl, WalksIn.mk (lit_walks _ (HB1.out.1.size))⟩, HB1.out.1.alloc HB1.out.1.size _⟩
  | true =>
    rw [hw] at HW
    obtain ⟨hg, hv⟩ := walksB_iff hw
    have HV := Lib.hid hv
    have hn8 := netGood_stops hg
    have HTT := Lib.hid (fun f (hfn : f < n.stops.length) W (h : Below w.heap.size w W) => walkingTimesOf_any nv lv n ws f W (hr.below rfl h) (hl.below rfl h) hv (netGood_stops hg) hfn)
    have HFin := Lib.hid (fun W (h : Below w.heap.size w W) u (hu : WalksAt W u (clAll n ws)) => HW2.out W h u (clAll n ws) hu)
    simp only [Bool.true_and]
    obtain ⟨a, c, a', c', rfl, -, -⟩ := net_open hr
    obtain ⟨lb, ld, rfl⟩ := WalkS_open hl
    clear hw hr hl hf hg hv HW2
    obtain ⟨i0, hi0, hz0, hz1, hz2⟩ := info_parts infoWalk
    obtain ⟨cb, hcb⟩ : ∃ cb, walksB n (clAll n ws) = cb := ⟨_, rfl⟩
    rw [hcb] at HFin
    rw [hcb]
    clear hcb
    go_enter Try.func37, Try.ntmps37
    go_wp2_with fail
    go_at_call 35
    refine (HW.out _ ((Below.refl _ _).alloc (Nat.le_refl _) _)).mono ?_
    rintro e w1 ⟨rfl, hb1⟩
    have p0 : w1.cell? ⟨w.heap.size, 0, none⟩ = some (.slice a n.stops.length c) := bkeep hb1 (by go_simp)
    have p1 : w1.cell? ⟨w.heap.size, 1, none⟩ = some (.slice a' n.lines.length c') := bkeep hb1 (by go_simp)
    have HB1 : Hid (Below w.heap.size w w1 ∧ w.heap.size < w1.heap.size) := ⟨((Below.refl _ _).alloc (Nat.le_refl _) _).trans (hb1.mono (by simp)), by have := hb1.size; simp at this; omega⟩
    clear hb1
    have hO1 : (w1.alloc (.cells #[] 67)).ownsRow (w.heap.size + 1) 67 3 (.slice (some ⟨w1.heap.size, 0, none⟩) 0 0) 0 (wlkC []) := lit_walks w1 (by have := HB1.out.2; omega)
    have HO1 := Lib.hid hO1
    have HB2 : Hid (Below w.heap.size w (w1.alloc (.cells #[] 67)) ∧ w.heap.size < (w1.alloc (.cells #[] 67)).heap.size) := ⟨HB1.out.1.alloc HB1.out.1.size _, by have := HB1.out.2; simp; omega⟩
    have p0 := acell p0 (.cells #[] 67)
    have p1 := acell p1 (.cells #[] 67)
    clear hO1 HB1
    go_wp2_with fail
    go_loopw [6, 19] (fun o i wr => ∃ k m : Nat, k ≤ n.stops.length ∧ i = .int .i64 k ∧ Hid (m = (clF ws n.stops.length k).length) ∧ Hid (wr.ownsRow (w.heap.size + 1) 67 3 o m (wlkC (clF ws n.stops.length k))) ∧ wr.cell? ⟨w.heap.size, 0, none⟩ = some (.slice a n.stops.length c) ∧ wr.cell? ⟨w.heap.size, 1, none⟩ = some (.slice a' n.lines.length c') ∧ Hid (Below w.heap.size w wr ∧ w.heap.size < wr.heap.size))
      (fun _ i _ => n.stops.length - (RowKit.intOf i).toNat)
    case atStart => exact ⟨0, 0, Nat.zero_le _, rfl, (by show _ = _; simp [clF]), HO1.out, p0, p1, HB2⟩
    case round =>
      clear p0 p1 HO1 HB2
      obtain ⟨k, m, hk, rfl, HMl, HOwn, p0, p1, HB⟩ := hrel
      obtain ⟨oa, oc, rfl⟩ := own_shape HOwn.out
      have hml1 := clF_len ws n.stops.length k
      have hml3 : k * n.stops.length ≤ 8 * 8 := Nat.mul_le_mul (by omega) hn8
      by_cases hlt : k < n.stops.length
      · have hk1 : (k : Int) < (n.stops.length : Int) := by omega
        have hn0 : 0 < n.stops.length := by omega
        have HT := Lib.hid (HTT.out k hlt)
        have hlenR := wt_len HV.out hlt
        have HOr := Lib.hid (fun s (hs : s < n.stops.length) (hne : s ≠ k) => wt_other HV.out hlt hs hne)
        have HNextF : Hid (clF ws n.stops.length (k + 1) = clF ws n.stops.length k ++ clR (wt ws n.stops.length k) k (n.stops.length - (k + 1))) := rfl
        generalize hR : wt ws n.stops.length k = R at *
        clear hR
        go_wp2_with fail
        go_at_call 87
        refine (HT.out _ HB.out.1).mono ?_
        rintro e w2 ⟨⟨a2, c2, rfl, ho2⟩, hb2⟩
        obtain ⟨g2, rfl, hg1, hg2, hc2⟩ := own_cells ho2 hn0 hlenR
        have HRow := Lib.hid hc2
        have HO2 := Lib.hid (own_later HOwn.out hb2)
        have p0 := bkeep hb2 p0
        have p1 := bkeep hb2 p1
        have HB2 : Hid (Below w.heap.size w w2 ∧ w.heap.size < w2.heap.size) := ⟨HB.out.1.trans (hb2.mono HB.out.1.size), by have := hb2.size; have := HB.out.2; omega⟩
        obtain ⟨ws1, hws1⟩ : ∃ ws1, ws1 = wr.heap.size := ⟨_, rfl⟩
        obtain ⟨ws2, hws2⟩ : ∃ ws2, ws2 = w2.heap.size := ⟨_, rfl⟩
        rw [← hws1] at hg1
        rw [← hws2] at hg2
        have HBlk0 : Hid (∀ g, (Value.slice oa m oc).ownBlock = some g → g < ws1 ∨ ws2 ≤ g) := fun g hg => .inl (by rw [hws1]; exact (HOwn.out.lt g hg).2)
        clear hc2 ho2 hb2 HOwn HB HT hlenR
        go_wp2_with fail
        go_loopw [6, 9] (fun o b wr => ∃ j m : Nat, k + 1 + j ≤ n.stops.length ∧ b = .int .i64 ((k + 1 + j : Nat) : Int) ∧ Hid (m = (clF ws n.stops.length k ++ clR R k j).length) ∧ Hid (wr.ownsRow (w.heap.size + 1) 67 3 o m (wlkC (clF ws n.stops.length k ++ clR R k j))) ∧ Hid (∀ g, o.ownBlock = some g → g < ws1 ∨ ws2 ≤ g) ∧ wr.cell? ⟨w.heap.size, 0, none⟩ = some (.slice a n.stops.length c) ∧ wr.cell? ⟨w.heap.size, 1, none⟩ = some (.slice a' n.lines.length c') ∧ Hid (∀ q, q < n.stops.length → wr.cell? ⟨g2, q, none⟩ = some (.int .i64 (wat R q))) ∧ Hid (Below w.heap.size w wr ∧ w.heap.size < wr.heap.size) ∧ ws2 ≤ wr.heap.size)
          (fun _ b _ => n.stops.length - (RowKit.intOf b).toNat)
        case atStart => exact ⟨0, m, by omega, by go_num, (by show _ = _; have := HMl.out; simp only [clR, List.append_nil]; exact this), by show World.ownsRow _ _ _ _ _ _ _; simp only [clR, List.append_nil]; exact HO2.out, HBlk0, p0, p1, HRow, HB2, by omega⟩
        case round =>
          clear p0 p1 HO2 HBlk0 HRow HB2 hws1 hws2 HMl
          obtain ⟨j, m, hj, rfl, HMl, HOi, HBlk, p0, p1, HRow, HB, hzz⟩ := hrel
          obtain ⟨oa, oc, rfl⟩ := own_shape HOi.out
          have hmr := clR_len R k j
          have hzq := HB.out.2
          have hmm : m ≤ 72 := by have := HMl.out; rw [List.length_append] at this; omega
          by_cases hlt2 : k + 1 + j < n.stops.length
          · have hq := HRow.out (k + 1 + j) hlt2
            have hk2 : ((k + 1 + j : Nat) : Int) < (n.stops.length : Int) := by omega
            have hk3 : (k : Int) + 1 + (j : Int) < (n.stops.length : Int) := by omega
            have hDor := HOr.out (k + 1 + j) hlt2 (by omega)
            have HYes : Hid (0 < wat R (k + 1 + j) → clR R k (j + 1) = clR R k j ++ [⟨(k : Int), ((k + 1 + j : Nat) : Int), wat R (k + 1 + j)⟩]) := fun h => clR_yes h
            have HNo : Hid (¬ 0 < wat R (k + 1 + j) → clR R k (j + 1) = clR R k j) := fun h => clR_no h
            generalize wat R (k + 1 + j) = D at *
            by_cases hc : 0 < D
            · have hdc : (D != -1) = true := by simp; omega
              have HSucc := Lib.hid (HYes.out hc)
              clear HYes HNo hDor
              go_wp2_with (at_builtin; refine wpList_append_own_at _ rfl _ _ 59 rfl (w.heap.size + 1) 67 i0 (.agg #[.int .i64 0, .int .i64 0, .int .i64 0]) 3 24 Try.underlying59 hi0 hz0 hz1 hz2 rfl (by decide) _ m _ rfl (HOi.out.alloc _) ⟨wr.heap.size, 0, none⟩ 1 1 [.int .i64 (k : Int), .int .i64 ((k + 1 + j : Nat) : Int), .int .i64 D] rfl rfl ?c1 ?c2 ?c3 ?c4 ?c5 ?_)
              case c1 => exact wlkC_one _ ⟨(k : Int), ((k + 1 + j : Nat) : Int), D⟩ _
              case c2 => intro u hu; simp at hu; rcases hu with rfl | rfl | rfl <;> rfl
              case c3 => unfold maxLen; omega
              case c4 => omega
              case c5 => simp; omega
              intro v' w3 hown' hgrow _ hat
              have HR : Hid (w3.ownsRow (w.heap.size + 1) 67 3 v' (m + 1) (wlkC (clF ws n.stops.length k ++ clR R k (j + 1)))) := by
                show w3.ownsRow _ _ _ _ _ _
                rw [HSucc.out, ← List.append_assoc, wlkC_append]; exact hown'
              have hml2 : Hid (m + 1 = (clF ws n.stops.length k ++ clR R k (j + 1)).length) := by show _ = _; have e := HMl.out; rw [HSucc.out, ← List.append_assoc, List.length_append, ← e]; rfl
              have ho : Value.ownBlock (.slice oa m oc) ≠ some w.heap.size := fun e => by have := (HOi.out.lt w.heap.size e).1; omega
              have hog : Value.ownBlock (.slice oa m oc) ≠ some g2 := fun e => by rcases HBlk.out g2 e with h | h <;> omega
              have z0 : w3.cell? ⟨w.heap.size, 0, none⟩ = some (.slice a n.stops.length c) := hgrow.cell (acell p0 _) (fun e => ho e.symm)
              have z1 : w3.cell? ⟨w.heap.size, 1, none⟩ = some (.slice a' n.lines.length c') := hgrow.cell (acell p1 _) (fun e => ho e.symm)
              have HRow2 : Hid (∀ q, q < n.stops.length → w3.cell? ⟨g2, q, none⟩ = some (.int .i64 (wat R q))) := fun q hq => hgrow.cell (acell (HRow.out q hq) _) (fun e => hog e.symm)
              have HBlk2 : Hid (∀ g, v'.ownBlock = some g → g < ws1 ∨ ws2 ≤ g) := fun g hg => by
                rcases hat with h | h
                · rw [h] at hg; exact HBlk.out g hg
                · rw [h] at hg; simp at hg; omega
              have HB3 : Hid (Below w.heap.size w w3 ∧ w.heap.size < w3.heap.size) := ⟨(HB.out.1.alloc (by have := HB.out.2; omega) _).grown hgrow (by have := HB.out.2; simp; omega) (fun g hg => by have := (HOi.out.lt g hg).1; omega), by have := hgrow.size; have := HB.out.2; simp at *; omega⟩
              have hw3 : ws2 ≤ w3.heap.size := by have := hgrow.size; simp at this; omega
              clear hown' hgrow ho hog hat p0 p1 hq
              go_wp2_with fail
              go_roundw
              case rel => exact ⟨j + 1, m + 1, by omega, by go_num, hml2, HR, HBlk2, z0, z1, HRow2, HB3, hw3⟩
              case measure => simp [RowKit.intOf]; omega
            · have hd1 : D = -1 := by rcases hDor with h | h <;> omega
              have hdc : (D != -1) = false := by simp [hd1]
              clear hd1
              have HSucc := Lib.hid (HNo.out (by omega))
              clear HYes HNo hDor
              go_wp2_with fail
              go_roundw
              case rel => exact ⟨j + 1, m, by omega, by go_num, (by show _ = _; rw [HSucc.out]; exact HMl.out), by show World.ownsRow _ _ _ _ _ _ _; rw [HSucc.out]; exact HOi.out, HBlk, p0, p1, HRow, HB, hzz⟩
              case measure => simp [RowKit.intOf]; omega
          · have hje : j = n.stops.length - (k + 1) := by omega
            have hk2 : ¬ ((k + 1 + j : Nat) : Int) < (n.stops.length : Int) := by omega
            have hk3 : ¬ (k : Int) + 1 + (j : Int) < (n.stops.length : Int) := by omega
            have HOf : Hid (wr.ownsRow (w.heap.size + 1) 67 3 (.slice oa m oc) m (wlkC (clF ws n.stops.length (k + 1)))) := by
              show World.ownsRow _ _ _ _ _ _ _
              rw [HNextF.out, ← hje]; exact HOi.out
            have hmf : Hid (m = (clF ws n.stops.length (k + 1)).length) := by show _ = _; rw [HNextF.out, ← hje]; exact HMl.out
            clear hje
            go_wp2_with fail
            exact ⟨⟨k + 1, m, by omega, by go_num, hmf, HOf, p0, p1, HB⟩, by simp [RowKit.intOf]; omega⟩
      · obtain rfl : k = n.stops.length := by omega
        have HAt : Hid (WalksAt wr (.slice oa m oc) (clAll n ws)) := walksAt_own (by have h := HOwn.out; have e : m = (clAll n ws).length := HMl.out; rw [← e]; exact h)
        have HCall := Lib.hid (HFin.out wr HB.out.1 _ HAt.out)
        clear HFin HAt
        go_wp2_with fail
        go_at_call 35
        refine HCall.out.mono ?_
        rintro e w2 ⟨rfl, hb2⟩
        have HO2 := Lib.hid (own_later HOwn.out hb2)
        have HB2 : Hid (Below w.heap.size w w2 ∧ w.heap.size < w2.heap.size) := ⟨HB.out.1.trans (hb2.mono HB.out.1.size), by have := hb2.size; have := HB.out.2; omega⟩
        clear hb2 HOwn HB p0 p1 HCall
        cases cb with
        | true =>
          go_wp2_with fail
          go_ret2
          refine ⟨⟨_, rfl, WalksIn.mk ?_⟩, HB2.out.1⟩
          have e : m = (clAll n ws).length := HMl.out
          rw [← e]
          exact own_base HO2.out (Nat.le_succ w.heap.size)
        | false =>
          go_wp2_with fail
          go_ret2
          exact ⟨⟨_, rfl, WalksIn.mk (lit_walks _ (HB2.out.1.size))⟩, HB2.out.1.alloc HB2.out.1.size _⟩

set_option maxRecDepth 100000 in
set_option maxHeartbeats 4000000 in
theorem specClose_any (nv lv : Value) (n : NetD) (ws : List WlkD) (w : World) (hr : NetAt w nv n) (hl : WalksAt w lv ws) (hf : NetFits n) :
    Calls Try.prog 38 #[nv, lv] w fun e w' => WlksB w.heap.size (clAns n ws) (clOk n ws) e w' ∧ Below w.heap.size w w' := by
  have HW := Lib.hid (fun W (h : Below w.heap.size w W) => l7Good_any0 nv lv n ws W (hr.below rfl h) (hl.below rfl h) hf)
  have HW2 := Lib.hid (fun W (h : Below w.heap.size w W) u cl (hu : WalksAt W u cl) => l7Good_any0 nv u n cl W (hr.below rfl h) hu hf)
  have HL := Lib.hid hl
  unfold clAns clOk
  cases hw : walksB n ws with
  | false =>
    rw [hw] at HW
    simp only [Bool.false_eq_true, if_false, Bool.false_and]
    obtain ⟨a, c, a', c', rfl, -, -⟩ := net_open hr
    obtain ⟨lb, ld, rfl⟩ := WalkS_open hl
    clear hw hr hl hf HW2
    go_enter Try.func38, Try.ntmps38
    go_wp2_with fail
    obtain ⟨wa, hwa⟩ : ∃ wa : World, wa = (w.alloc (.cells #[.slice a n.stops.length c, .slice a' n.lines.length c'] 27)).alloc (.cells #[] 67) := ⟨_, rfl⟩
    have hba : Below w.heap.size w wa := by rw [hwa]; exact ((Below.refl _ _).alloc (Nat.le_refl _) _).alloc (by simp) _
    have HO : Hid (wa.ownsRow (w.heap.size + 1) 67 3 (.slice (some ⟨w.heap.size + 1, 0, none⟩) 0 0) 0 (wlkC [])) := by
      show World.ownsRow _ _ _ _ _ _ _
      rw [hwa]
      have := lit_walks (B := w.heap.size + 1) (w.alloc (.cells #[.slice a n.stops.length c, .slice a' n.lines.length c'] 27)) (by simp)
      simpa using this
    have p0 : wa.cell? ⟨w.heap.size, 0, none⟩ = some (.slice a n.stops.length c) := by rw [hwa]; go_simp
    have p1 : wa.cell? ⟨w.heap.size, 1, none⟩ = some (.slice a' n.lines.length c') := by rw [hwa]; go_simp
    have hza : w.heap.size + 1 < wa.heap.size := by rw [hwa]; simp
    rw [← hwa]
    clear hwa
    go_at_call 88
    refine (HW.out _ hba).mono ?_
    rintro e w1 ⟨rfl, hb1⟩
    have HO1 := Lib.hid (own_later HO.out hb1)
    have p0 := bkeep hb1 p0
    have p1 := bkeep hb1 p1
    have HB1 : Hid (Below w.heap.size w w1 ∧ w.heap.size < w1.heap.size) := ⟨hba.trans (hb1.mono hba.size), by have := hb1.size; omega⟩
    clear hb1 hba hza HO
    go_wp2_with fail
    go_ret2
    exact ⟨⟨_, rfl, WalksIn.mk (own_base HO1.out (Nat.le_succ _))⟩, HB1.out.1⟩
  | true =>
    rw [hw] at HW
    obtain ⟨hg, hv⟩ := walksB_iff hw
    have HV := Lib.hid hv
    have hn8 := netGood_stops hg
    have HTT := Lib.hid (fun f (hfn : f < n.stops.length) W (h : Below w.heap.size w W) => l7Times_any lv ws n.stops.length f W (hl.below rfl h) hv (netGood_stops hg) hfn)
    have HFin := Lib.hid (fun W (h : Below w.heap.size w W) u (hu : WalksAt W u (clAll n ws)) => HW2.out W h u (clAll n ws) hu)
    simp only [Bool.true_and]
    obtain ⟨a, c, a', c', rfl, -, -⟩ := net_open hr
    obtain ⟨lb, ld, rfl⟩ := WalkS_open hl
    clear hw hr hl hf hg hv HW2
    obtain ⟨i0, hi0, hz0, hz1, hz2⟩ := info_parts infoWalk
    obtain ⟨cb, hcb⟩ : ∃ cb, walksB n (clAll n ws) = cb := ⟨_, rfl⟩
    rw [hcb] at HFin
    rw [hcb]
    clear hcb
    go_enter Try.func38, Try.ntmps38
    go_wp2_with fail
    obtain ⟨wa, hwa⟩ : ∃ wa : World, wa = (w.alloc (.cells #[.slice a n.stops.length c, .slice a' n.lines.length c'] 27)).alloc (.cells #[] 67) := ⟨_, rfl⟩
    have hba : Below w.heap.size w wa := by rw [hwa]; exact ((Below.refl _ _).alloc (Nat.le_refl _) _).alloc (by simp) _
    have HO : Hid (wa.ownsRow (w.heap.size + 1) 67 3 (.slice (some ⟨w.heap.size + 1, 0, none⟩) 0 0) 0 (wlkC [])) := by
      show World.ownsRow _ _ _ _ _ _ _
      rw [hwa]
      have := lit_walks (B := w.heap.size + 1) (w.alloc (.cells #[.slice a n.stops.length c, .slice a' n.lines.length c'] 27)) (by simp)
      simpa using this
    have p0 : wa.cell? ⟨w.heap.size, 0, none⟩ = some (.slice a n.stops.length c) := by rw [hwa]; go_simp
    have p1 : wa.cell? ⟨w.heap.size, 1, none⟩ = some (.slice a' n.lines.length c') := by rw [hwa]; go_simp
    have hza : w.heap.size + 1 < wa.heap.size := by rw [hwa]; simp
    rw [← hwa]
    clear hwa
    go_at_call 88
    refine (HW.out _ hba).mono ?_
    rintro e w1 ⟨rfl, hb1⟩
    have HO1 := Lib.hid (own_later HO.out hb1)
    have p0 := bkeep hb1 p0
    have p1 := bkeep hb1 p1
    have HB1 : Hid (Below w.heap.size w w1 ∧ w.heap.size < w1.heap.size) := ⟨hba.trans (hb1.mono hba.size), by have := hb1.size; omega⟩
    clear hb1 hba hza HO

    go_wp2_with fail
    go_loopw [6, 7] (fun o i wr => ∃ k m : Nat, k ≤ n.stops.length ∧ i = .int .i64 k ∧ Hid (m = (clF ws n.stops.length k).length) ∧ Hid (wr.ownsRow (w.heap.size + 1) 67 3 o m (wlkC (clF ws n.stops.length k))) ∧ wr.cell? ⟨w.heap.size, 0, none⟩ = some (.slice a n.stops.length c) ∧ wr.cell? ⟨w.heap.size, 1, none⟩ = some (.slice a' n.lines.length c') ∧ Hid (Below w.heap.size w wr ∧ w.heap.size < wr.heap.size))
      (fun _ i _ => n.stops.length - (RowKit.intOf i).toNat)
    case atStart => exact ⟨0, 0, Nat.zero_le _, rfl, (by show _ = _; simp [clF]), HO1.out, p0, p1, HB1⟩
    case round =>
      clear p0 p1 HO1 HB1
      obtain ⟨k, m, hk, rfl, HMl, HOwn, p0, p1, HB⟩ := hrel
      obtain ⟨oa, oc, rfl⟩ := own_shape HOwn.out
      have hml1 := clF_len ws n.stops.length k
      have hml3 : k * n.stops.length ≤ 8 * 8 := Nat.mul_le_mul (by omega) hn8
      by_cases hlt : k < n.stops.length
      · have hk1 : (k : Int) < (n.stops.length : Int) := by omega
        have hn0 : 0 < n.stops.length := by omega
        have HT := Lib.hid (HTT.out k hlt)
        have hlenR := wt_len HV.out hlt
        have HOr := Lib.hid (fun s (hs : s < n.stops.length) (hne : s ≠ k) => wt_other HV.out hlt hs hne)
        have HNextF : Hid (clF ws n.stops.length (k + 1) = clF ws n.stops.length k ++ clR (wt ws n.stops.length k) k (n.stops.length - (k + 1))) := rfl
        generalize hR : wt ws n.stops.length k = R at *
        clear hR
        go_wp2_with fail
        go_at_call 89
        refine (HT.out _ HB.out.1).mono ?_
        rintro e w2 ⟨⟨a2, c2, rfl, ho2⟩, hb2⟩
        obtain ⟨g2, rfl, hg1, hg2, hc2⟩ := own_cells ho2 hn0 hlenR
        have HRow := Lib.hid hc2
        have HO2 := Lib.hid (own_later HOwn.out hb2)
        have p0 := bkeep hb2 p0
        have p1 := bkeep hb2 p1
        have HB2 : Hid (Below w.heap.size w w2 ∧ w.heap.size < w2.heap.size) := ⟨HB.out.1.trans (hb2.mono HB.out.1.size), by have := hb2.size; have := HB.out.2; omega⟩
        obtain ⟨ws1, hws1⟩ : ∃ ws1, ws1 = wr.heap.size := ⟨_, rfl⟩
        obtain ⟨ws2, hws2⟩ : ∃ ws2, ws2 = w2.heap.size := ⟨_, rfl⟩
        rw [← hws1] at hg1
        rw [← hws2] at hg2
        have HBlk0 : Hid (∀ g, (Value.slice oa m oc).ownBlock = some g → g < ws1 ∨ ws2 ≤ g) := fun g hg => .inl (by rw [hws1]; exact (HOwn.out.lt g hg).2)
        clear hc2 ho2 hb2 HOwn HB HT hlenR
        go_wp2_with fail
        go_loopw [6, 9] (fun o b wr => ∃ j m : Nat, k + 1 + j ≤ n.stops.length ∧ b = .int .i64 ((k + 1 + j : Nat) : Int) ∧ Hid (m = (clF ws n.stops.length k ++ clR R k j).length) ∧ Hid (wr.ownsRow (w.heap.size + 1) 67 3 o m (wlkC (clF ws n.stops.length k ++ clR R k j))) ∧ Hid (∀ g, o.ownBlock = some g → g < ws1 ∨ ws2 ≤ g) ∧ wr.cell? ⟨w.heap.size, 0, none⟩ = some (.slice a n.stops.length c) ∧ wr.cell? ⟨w.heap.size, 1, none⟩ = some (.slice a' n.lines.length c') ∧ Hid (∀ q, q < n.stops.length → wr.cell? ⟨g2, q, none⟩ = some (.int .i64 (wat R q))) ∧ Hid (Below w.heap.size w wr ∧ w.heap.size < wr.heap.size) ∧ ws2 ≤ wr.heap.size)
          (fun _ b _ => n.stops.length - (RowKit.intOf b).toNat)
        case atStart => exact ⟨0, m, by omega, by go_num, (by show _ = _; have := HMl.out; simp only [clR, List.append_nil]; exact this), by show World.ownsRow _ _ _ _ _ _ _; simp only [clR, List.append_nil]; exact HO2.out, HBlk0, p0, p1, HRow, HB2, by omega⟩
        case round =>
          clear p0 p1 HO2 HBlk0 HRow HB2 hws1 hws2 HMl
          obtain ⟨j, m, hj, rfl, HMl, HOi, HBlk, p0, p1, HRow, HB, hzz⟩ := hrel
          obtain ⟨oa, oc, rfl⟩ := own_shape HOi.out
          have hmr := clR_len R k j
          have hzq := HB.out.2
          have hmm : m ≤ 72 := by have := HMl.out; rw [List.length_append] at this; omega
          by_cases hlt2 : k + 1 + j < n.stops.length
          · have hq := HRow.out (k + 1 + j) hlt2
            have hk2 : ((k + 1 + j : Nat) : Int) < (n.stops.length : Int) := by omega
            have hk3 : (k : Int) + 1 + (j : Int) < (n.stops.length : Int) := by omega
            have hDor := HOr.out (k + 1 + j) hlt2 (by omega)
            have HYes : Hid (0 < wat R (k + 1 + j) → clR R k (j + 1) = clR R k j ++ [⟨(k : Int), ((k + 1 + j : Nat) : Int), wat R (k + 1 + j)⟩]) := fun h => clR_yes h
            have HNo : Hid (¬ 0 < wat R (k + 1 + j) → clR R k (j + 1) = clR R k j) := fun h => clR_no h
            generalize wat R (k + 1 + j) = D at *
            by_cases hc : 0 < D
            · have hdc : decide (0 < D) = true := decide_eq_true hc
              have HSucc := Lib.hid (HYes.out hc)
              clear HYes HNo hDor
              go_wp2_with (at_builtin; refine wpList_append_own_at _ rfl _ _ 59 rfl (w.heap.size + 1) 67 i0 (.agg #[.int .i64 0, .int .i64 0, .int .i64 0]) 3 24 Try.underlying59 hi0 hz0 hz1 hz2 rfl (by decide) _ m _ rfl (HOi.out.alloc _) ⟨wr.heap.size, 0, none⟩ 1 1 [.int .i64 (k : Int), .int .i64 ((k + 1 + j : Nat) : Int), .int .i64 D] rfl rfl ?c1 ?c2 ?c3 ?c4 ?c5 ?_)
              case c1 => exact wlkC_one _ ⟨(k : Int), ((k + 1 + j : Nat) : Int), D⟩ _
              case c2 => intro u hu; simp at hu; rcases hu with rfl | rfl | rfl <;> rfl
              case c3 => unfold maxLen; omega
              case c4 => omega
              case c5 => simp; omega
              intro v' w3 hown' hgrow _ hat
              have HR : Hid (w3.ownsRow (w.heap.size + 1) 67 3 v' (m + 1) (wlkC (clF ws n.stops.length k ++ clR R k (j + 1)))) := by
                show w3.ownsRow _ _ _ _ _ _
                rw [HSucc.out, ← List.append_assoc, wlkC_append]; exact hown'
              have hml2 : Hid (m + 1 = (clF ws n.stops.length k ++ clR R k (j + 1)).length) := by show _ = _; have e := HMl.out; rw [HSucc.out, ← List.append_assoc, List.length_append, ← e]; rfl
              have ho : Value.ownBlock (.slice oa m oc) ≠ some w.heap.size := fun e => by have := (HOi.out.lt w.heap.size e).1; omega
              have hog : Value.ownBlock (.slice oa m oc) ≠ some g2 := fun e => by rcases HBlk.out g2 e with h | h <;> omega
              have z0 : w3.cell? ⟨w.heap.size, 0, none⟩ = some (.slice a n.stops.length c) := hgrow.cell (acell p0 _) (fun e => ho e.symm)
              have z1 : w3.cell? ⟨w.heap.size, 1, none⟩ = some (.slice a' n.lines.length c') := hgrow.cell (acell p1 _) (fun e => ho e.symm)
              have HRow2 : Hid (∀ q, q < n.stops.length → w3.cell? ⟨g2, q, none⟩ = some (.int .i64 (wat R q))) := fun q hq => hgrow.cell (acell (HRow.out q hq) _) (fun e => hog e.symm)
              have HBlk2 : Hid (∀ g, v'.ownBlock = some g → g < ws1 ∨ ws2 ≤ g) := fun g hg => by
                rcases hat with h | h
                · rw [h] at hg; exact HBlk.out g hg
                · rw [h] at hg; simp at hg; omega
              have HB3 : Hid (Below w.heap.size w w3 ∧ w.heap.size < w3.heap.size) := ⟨(HB.out.1.alloc (by have := HB.out.2; omega) _).grown hgrow (by have := HB.out.2; simp; omega) (fun g hg => by have := (HOi.out.lt g hg).1; omega), by have := hgrow.size; have := HB.out.2; simp at *; omega⟩
              have hw3 : ws2 ≤ w3.heap.size := by have := hgrow.size; simp at this; omega
              clear hown' hgrow ho hog hat p0 p1 hq
              go_wp2_with fail
              go_roundw
              case rel => exact ⟨j + 1, m + 1, by omega, by go_num, hml2, HR, HBlk2, z0, z1, HRow2, HB3, hw3⟩
              case measure => simp [RowKit.intOf]; omega
            · have hdc : decide (0 < D) = false := decide_eq_false (by omega)
              have HSucc := Lib.hid (HNo.out (by omega))
              clear HYes HNo hDor
              go_wp2_with fail
              go_roundw
              case rel => exact ⟨j + 1, m, by omega, by go_num, (by show _ = _; rw [HSucc.out]; exact HMl.out), by show World.ownsRow _ _ _ _ _ _ _; rw [HSucc.out]; exact HOi.out, HBlk, p0, p1, HRow, HB, hzz⟩
              case measure => simp [RowKit.intOf]; omega
          · have hje : j = n.stops.length - (k + 1) := by omega
            have hk2 : ¬ ((k + 1 + j : Nat) : Int) < (n.stops.length : Int) := by omega
            have hk3 : ¬ (k : Int) + 1 + (j : Int) < (n.stops.length : Int) := by omega
            have HOf : Hid (wr.ownsRow (w.heap.size + 1) 67 3 (.slice oa m oc) m (wlkC (clF ws n.stops.length (k + 1)))) := by
              show World.ownsRow _ _ _ _ _ _ _
              rw [HNextF.out, ← hje]; exact HOi.out
            have hmf : Hid (m = (clF ws n.stops.length (k + 1)).length) := by show _ = _; rw [HNextF.out, ← hje]; exact HMl.out
            clear hje
            go_wp2_with fail
            exact ⟨⟨k + 1, m, by omega, by go_num, hmf, HOf, p0, p1, HB⟩, by simp [RowKit.intOf]; omega⟩
      · obtain rfl : k = n.stops.length := by omega
        have HAt : Hid (WalksAt wr (.slice oa m oc) (clAll n ws)) := walksAt_own (by have h := HOwn.out; have e : m = (clAll n ws).length := HMl.out; rw [← e]; exact h)
        have HCall := Lib.hid (HFin.out wr HB.out.1 _ HAt.out)
        clear HFin HAt
        go_wp2_with fail
        go_at_call 88
        refine HCall.out.mono ?_
        rintro e w2 ⟨rfl, hb2⟩
        have HO2 := Lib.hid (own_later HOwn.out hb2)
        have HB2 : Hid (Below w.heap.size w w2 ∧ w.heap.size < w2.heap.size) := ⟨HB.out.1.trans (hb2.mono HB.out.1.size), by have := hb2.size; have := HB.out.2; omega⟩
        clear hb2 HOwn HB p0 p1 HCall
        cases cb with
        | true =>
          go_wp2_with fail
          go_ret2
          refine ⟨⟨_, rfl, WalksIn.mk ?_⟩, HB2.out.1⟩
          have e : m = (clAll n ws).length := HMl.out
          rw [← e]
          exact own_base HO2.out (Nat.le_succ w.heap.size)
        | false =>
          go_wp2_with fail
          go_ret2
          exact ⟨⟨_, rfl, WalksIn.mk (lit_walks _ (HB2.out.1.size))⟩, HB2.out.1.alloc HB2.out.1.size _⟩

end Go.Proofs.Ytemejcbilhcebaa

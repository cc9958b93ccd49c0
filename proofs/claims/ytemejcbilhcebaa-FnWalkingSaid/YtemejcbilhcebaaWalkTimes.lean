import Derived.Test.YtemejcbilhcebaaTakeWay2
import Derived.Test.YtemejcbilhcebaaMk04
import Derived.Laws.IdiomStrings
import Derived.Maps.AppendAt
namespace Go.Proofs.Ytemejcbilhcebaa
open Go.RowKit
set_option linter.unusedVariables false
set_option linter.unusedSimpArgs false

theorem infoWay : (Try.prog.info? 108).map (fun i => (i.zero, i.size, i.bytes)) = some (some (.pointer none), 1, 8) := by kernel_rfl
theorem made_nils (n : Nat) : (madeCells #[.pointer none] n).toList = List.replicate n (.pointer none) := by
  unfold madeCells
  refine List.ext_getElem (by simp) fun t h1 h2 => ?_
  simp [Nat.mod_one]

set_option maxRecDepth 100000 in
set_option maxHeartbeats 2000000 in
theorem firstWays_any (nv lv : Value) (n : NetD) (ws : List WlkD) (f : Nat) (w : World) (hr : NetAt w nv n) (hl : WalksAt w lv ws) (hv : WksOk n.stops.length ws) (hn8 : n.stops.length ≤ 8) (hf : f < n.stops.length) :
    Calls Try.prog 84 #[nv, lv, .int .i64 f] w fun e w' => e = .returned (.slice (some ⟨w.heap.size + 1, 0, none⟩) n.stops.length n.stops.length) ∧ FirstAt w.heap.size (w.heap.size + 1) n.stops.length w' (firstW ws n.stops.length f) ∧ Below w.heap.size w w' := by
  obtain ⟨a, c, a', c', rfl, -, -⟩ := net_open hr
  obtain ⟨lb, ld, rfl⟩ := WalkS_open hl
  have HT := Lib.hid (takeWay_any n.stops.length f ws hv hn8 hf w _ hl (w.heap.size + 1) (by omega) n.stops.length)
  clear hr hl hv
  obtain ⟨i0, hi, hz0, hz1, hz2⟩ := info_parts infoWay
  generalize hN : n.stops.length = N at *
  go_enter Try.func84, Try.ntmps84
  go_wp2_with (at_make; refine wpList_make_full _ rfl _ _ 109 rfl w.heap.size 108 i0 (.pointer none) 1 Try.underlying109 hi hz0 hz1 .i64 .i64 (N : Int) (N : Int) N rfl rfl rfl rfl ?c1 ?c2 ?c3 ?_)
  case c1 => rw [hz2]; omega
  case c2 => unfold maxLen; omega
  case c3 => simp
  intro w1 hown hgrow
  try simp only [World.size_alloc] at hown
  have hbel : Below w.heap.size w w1 := ((Below.refl _ _).alloc (Nat.le_refl _) _).grown hgrow (by simp) (fun k hk => by cases hk)
  have hfl : w.heap.size + 1 < w1.heap.size := (hown.lt (w.heap.size + 1) rfl).2
  have HF : Hid (FirstAt w.heap.size (w.heap.size + 1) N w1 (List.replicate N [])) := by
    refine ⟨hfl, _, hown, ?_, fun s h1 h2 => ?_⟩
    · rw [made_nils]; simp
    · have e : (List.replicate N ([] : Chn))[s] = [] := List.getElem_replicate _
      rw [e]
      show _ = _
      simp [made_nils]
  have HB := Lib.hid hbel
  clear hown hgrow hbel
  go_wp2_with fail
  obtain ⟨wx, hwx⟩ : ∃ wx : World, wx = w1.alloc (.cells #[.pointer none, .int .i64 (f : Int), .int .i64 1, .int .i64 0] 132) := ⟨_, rfl⟩
  have key : Below w1.heap.size w1 wx := by rw [hwx]; exact (Below.refl _ _).alloc (Nat.le_refl _) _
  have n0 : wx.cell? ⟨w1.heap.size, 0, none⟩ = some (.pointer none) := by rw [hwx]; go_simp
  have n1 : wx.cell? ⟨w1.heap.size, 1, none⟩ = some (.int .i64 (f : Int)) := by rw [hwx]; go_simp
  have n2 : wx.cell? ⟨w1.heap.size, 2, none⟩ = some (.int .i64 1) := by rw [hwx]; go_simp
  have n3 : wx.cell? ⟨w1.heap.size, 3, none⟩ = some (.int .i64 0) := by rw [hwx]; go_simp
  have hzx : w1.heap.size < wx.heap.size := by rw [hwx]; simp
  have HNx : Hid (NodeAt wx (w.heap.size + 1) [(f, 0)] (.pointer (some ⟨w1.heap.size, 0, none⟩))) := ⟨w1.heap.size, _, rfl, hzx, by omega, n0, n1, n2, n3, rfl⟩
  have HBx : Hid (Below w.heap.size w wx) := HB.out.trans (key.mono HB.out.size)
  have HC := Lib.hid (HT.out wx _ _ _ HBx.out (HF.out.later key) HNx.out ask_first (by simp only [List.length_cons, List.length_nil]; omega))
  rw [← hwx]
  clear hwx n0 n1 n2 n3 key HNx
  go_at_call 110
  refine HC.out.mono ?_
  rintro e w2 ⟨rfl, hf2, ho2⟩
  have HF2 : Hid (FirstAt w.heap.size (w.heap.size + 1) N w2 (firstW ws N f)) := hf2
  have HB2 : Hid (Below w.heap.size w w2) := HBx.out.trans (ho2.below.mono (by omega))
  clear hf2 ho2
  go_wp2_with fail
  go_ret
  exact ⟨rfl, HF2.out, HB2.out⟩

def minTs (σ : List Chn) (k : Nat) : List Int := (σ.take k).map minT
theorem minTs_succ {σ : List Chn} {k : Nat} (h : k < σ.length) : minTs σ (k + 1) = minTs σ k ++ [minT σ[k]] := by
  unfold minTs; rw [List.take_succ_eq_append_getElem h, List.map_append]; rfl

set_option maxRecDepth 100000 in
set_option maxHeartbeats 2000000 in
theorem walkingTimesOf_any (nv lv : Value) (n : NetD) (ws : List WlkD) (f : Nat) (w : World) (hr : NetAt w nv n) (hl : WalksAt w lv ws) (hv : WksOk n.stops.length ws) (hn8 : n.stops.length ≤ 8) (hf : f < n.stops.length) :
    Calls Try.prog 87 #[nv, lv, .int .i64 f] w fun e w' => (∃ a c, e = .returned (.slice a n.stops.length c) ∧ w'.ownsRow w.heap.size 3 1 (.slice a n.stops.length c) n.stops.length (ints (wt ws n.stops.length f))) ∧ Below w.heap.size w w' := by
  have HFw := Lib.hid (fun W (h : Below w.heap.size w W) => firstWays_any nv lv n ws f W (hr.below rfl h) (hl.below rfl h) hv hn8 hf)
  have HWt := Lib.hid (firstW_wt hv hf)
  have hσl := (firstW_ok hv hf).len
  obtain ⟨a, c, a', c', rfl, -, -⟩ := net_open hr
  obtain ⟨lb, ld, rfl⟩ := WalkS_open hl
  clear hr hl hv hf
  obtain ⟨i0, hi0, hz0, hz1, hz2⟩ := info_parts infoInt
  generalize hN : n.stops.length = N at *
  rw [HWt.out]
  have HSuc := Lib.hid (fun k (h : k < (firstW ws N f).length) => minTs_succ h)
  have HAll : Hid ((firstW ws N f).map minT = minTs (firstW ws N f) N) := by
    show _ = _
    unfold minTs; rw [List.take_of_length_le (by omega)]
  rw [HAll.out]
  clear HWt
  generalize firstW ws N f = σ at *
  go_enter Try.func87, Try.ntmps87
  go_wp2_with fail
  obtain ⟨wa, hwa⟩ : ∃ wa : World, wa = (w.alloc (.cells #[.slice a N c, .slice a' n.lines.length c'] 27)).alloc (.cells #[] 3) := ⟨_, rfl⟩
  have hba : Below w.heap.size w wa := by rw [hwa]; exact ((Below.refl _ _).alloc (Nat.le_refl _) _).alloc (by simp) _
  have HOwn0 : Hid (wa.ownsRow (w.heap.size + 1) 3 1 (.slice (some ⟨w.heap.size + 1, 0, none⟩) 0 0) 0 (ints (minTs σ 0))) := by
    have h := World.ownsRow_lit (base := w.heap.size + 1) (e := 3) (size := 1) (w.alloc (.cells #[.slice a N c, .slice a' n.lines.length c'] 27 (0, 0))) #[] 0 (by simp) (by decide) (by simp)
    show World.ownsRow _ _ _ _ _ _ _
    rw [hwa]
    simpa [ints, minTs] using h
  have hza : w.heap.size + 1 < wa.heap.size := by rw [hwa]; simp
  have hno : wa.cell? ⟨w.heap.size + 1, 3, none⟩ = none := by rw [hwa]; go_simp
  rw [← hwa]
  clear hwa
  go_at_call 84
  refine (HFw.out _ hba).mono ?_
  rintro e w1 ⟨rfl, hf1, hb1⟩
  obtain ⟨hfl, vs, hvo, hvn⟩ := hf1
  have HVo := Lib.hid hvo
  have HVn := Lib.hid hvn
  have hno1 : w1.cell? ⟨w.heap.size + 1, 3, none⟩ = none := by rw [hb1.cell (p := ⟨w.heap.size + 1, 3, none⟩) hza]; exact hno
  have HOwn1 := Lib.hid (own_later HOwn0.out hb1)
  have HB1 : Hid (Below w.heap.size w w1) := hba.trans (hb1.mono hba.size)
  have hzw : wa.heap.size ≤ w1.heap.size := hb1.size
  have hvl : vs.length = N := by rw [hvn.1, hσl]
  clear hvo hvn hb1 HOwn0 hba HFw hno
  generalize hfb : wa.heap.size + 1 = fb at *
  go_wp2_with fail
  go_loopw [7, 16] (fun o i wr => ∃ k : Nat, k ≤ N ∧ i = .int .i64 k ∧ Hid (wr.ownsRow (w.heap.size + 1) 3 1 o k (ints (minTs σ k))) ∧ Hid (∀ g, o.ownBlock = some g → g = w.heap.size + 1 ∨ w1.heap.size ≤ g) ∧ Hid (Below w.heap.size w wr) ∧ Hid (∀ g, g < w1.heap.size → g ≠ w.heap.size + 1 → wr.heap[g]? = w1.heap[g]?) ∧ w1.heap.size ≤ wr.heap.size)
    (fun _ i _ => N - (RowKit.intOf i).toNat)
  case atStart => exact ⟨0, Nat.zero_le _, rfl, HOwn1.out, (fun g hg => .inl (by simp [Value.ownBlock] at hg; omega)), HB1.out, (fun _ _ _ => rfl), Nat.le_refl _⟩
  case round =>
    obtain ⟨k, hk, rfl, HOwn, HBlk, HB, HKp, hz⟩ := hrel
    obtain ⟨oa, oc, rfl⟩ := own_shape HOwn.out
    by_cases hlt : k < N
    · have hlt1 : (k : Int) < (N : Int) := by omega
      have HSucc := Lib.hid (HSuc.out k (by omega))
      have hkv : k < vs.length := by omega
      have cell_keep : ∀ (g o : Nat) (u : Value), g ≠ w.heap.size + 1 → w1.cell? ⟨g, o, none⟩ = some u → wr.cell? ⟨g, o, none⟩ = some u := fun g o u hg hc => by
        have hl := World.block_lt_of_cell? _ _ hc
        have hb : wr.heap[g]? = w1.heap[g]? := HKp.out g hl hg
        unfold World.cell? at hc ⊢
        simp only at hc ⊢
        rw [hb]; exact hc
      have c0 : wr.cell? ⟨fb, k, none⟩ = some (vs[k]'hkv) := cell_keep fb k _ (by omega) (by rw [HVo.out.cellAt k (by omega)]; exact List.getElem?_eq_getElem _)
      have hnk := HVn.out.2 k (by omega) hkv
      have hwz : w.heap.size < wr.heap.size := by omega
      have hsk : k < σ.length := by omega
      generalize hvk : vs[k] = vk at *
      generalize hck : σ[k] = ck at *
      match ck, hnk with
      | [], hnk =>
        have hnk : vk = .pointer none := hnk
        subst hnk
        have HSucc : Hid (minTs σ (k + 1) = minTs σ k ++ [-1]) := HSucc
        clear hvk hck cell_keep HVo HVn
        go_wp2_with (at_builtin; refine wpList_append_own_at _ rfl _ _ 34 rfl (w.heap.size + 1) 3 i0 (.int .i64 0) 1 8 Try.underlying34 hi0 hz0 hz1 hz2 rfl (by decide) _ k _ rfl (HOwn.out.alloc _) ⟨wr.heap.size, 0, none⟩ 1 1 [.int .i64 (-1)] rfl rfl ?c1 ?c2 ?c3 ?c4 ?c5 ?_)
        case c1 => exact one_new _ _
        case c2 => intro u hu; simp at hu; subst hu; rfl
        case c3 => unfold maxLen; omega
        case c4 => omega
        case c5 => simp; omega
        intro v' w3 hown' hgrow _ hat
        have HR : Hid (w3.ownsRow (w.heap.size + 1) 3 1 v' (k + 1) (ints (minTs σ (k + 1)))) := by
          show w3.ownsRow _ _ _ _ _ _
          rw [HSucc.out]; simpa [ints] using hown'
        have HBlk2 : Hid (∀ g, v'.ownBlock = some g → g = w.heap.size + 1 ∨ w1.heap.size ≤ g) := fun g hg => by
          rcases hat with h | h
          · rw [h] at hg; exact HBlk.out g hg
          · rw [h] at hg; simp at hg; omega
        have HKp2 : Hid (∀ g, g < w1.heap.size → g ≠ w.heap.size + 1 → w3.heap[g]? = w1.heap[g]?) := fun g h1 h2 => by
          have e1 := hgrow.block g (by simp; omega) (fun e => by rcases HBlk.out g e.symm with h | h <;> omega)
          rw [e1]
          exact (((Below.refl wr.heap.size wr).alloc (Nat.le_refl _) _).block g (by omega)).trans (HKp.out g h1 h2)
        have HB3 : Hid (Below w.heap.size w w3) := (HB.out.alloc (by omega) _).grown hgrow (by simp; omega) (fun g hg => by rcases HBlk.out g hg with h | h <;> omega)
        have hz3 : w1.heap.size ≤ w3.heap.size := by have := hgrow.size; simp at this; omega
        clear hown' hgrow hat c0
        go_wp2_with fail
        go_roundw
        case rel => exact ⟨k + 1, by omega, by go_num, HR, HBlk2, HB3, HKp2, hz3⟩
        case measure => simp [RowKit.intOf]; omega
      | (s, m) :: q, hnk =>
        obtain ⟨pb, v2, rfl, hpl, -, -, -, -, d3, -⟩ := hnk
        have d3 : wr.cell? ⟨pb, 3, none⟩ = some (.int .i64 (m : Int)) := cell_keep pb 3 _ (fun e => by subst e; rw [hno1] at d3; cases d3) d3
        have HSucc : Hid (minTs σ (k + 1) = minTs σ k ++ [(m : Int)]) := HSucc
        clear hvk hck cell_keep HVo HVn
        generalize (m : Int) = M at *
        go_wp2_with (at_builtin; refine wpList_append_own_at _ rfl _ _ 34 rfl (w.heap.size + 1) 3 i0 (.int .i64 0) 1 8 Try.underlying34 hi0 hz0 hz1 hz2 rfl (by decide) _ k _ rfl (HOwn.out.alloc _) ⟨wr.heap.size, 0, none⟩ 1 1 [.int .i64 M] rfl rfl ?c1 ?c2 ?c3 ?c4 ?c5 ?_)
        case c1 => exact one_new _ _
        case c2 => intro u hu; simp at hu; subst hu; rfl
        case c3 => unfold maxLen; omega
        case c4 => omega
        case c5 => simp; omega
        intro v' w3 hown' hgrow _ hat
        have HR : Hid (w3.ownsRow (w.heap.size + 1) 3 1 v' (k + 1) (ints (minTs σ (k + 1)))) := by
          show w3.ownsRow _ _ _ _ _ _
          rw [HSucc.out]; simpa [ints] using hown'
        have HBlk2 : Hid (∀ g, v'.ownBlock = some g → g = w.heap.size + 1 ∨ w1.heap.size ≤ g) := fun g hg => by
          rcases hat with h | h
          · rw [h] at hg; exact HBlk.out g hg
          · rw [h] at hg; simp at hg; omega
        have HKp2 : Hid (∀ g, g < w1.heap.size → g ≠ w.heap.size + 1 → w3.heap[g]? = w1.heap[g]?) := fun g h1 h2 => by
          have e1 := hgrow.block g (by simp; omega) (fun e => by rcases HBlk.out g e.symm with h | h <;> omega)
          rw [e1]
          exact (((Below.refl wr.heap.size wr).alloc (Nat.le_refl _) _).block g (by omega)).trans (HKp.out g h1 h2)
        have HB3 : Hid (Below w.heap.size w w3) := (HB.out.alloc (by omega) _).grown hgrow (by simp; omega) (fun g hg => by rcases HBlk.out g hg with h | h <;> omega)
        have hz3 : w1.heap.size ≤ w3.heap.size := by have := hgrow.size; simp at this; omega
        clear hown' hgrow hat c0
        go_wp2_with fail
        go_roundw
        case rel => exact ⟨k + 1, by omega, by go_num, HR, HBlk2, HB3, HKp2, hz3⟩
        case measure => simp [RowKit.intOf]; omega
    · obtain rfl : k = N := by omega
      go_wp2_with fail
      go_ret
      have hX := HOwn.out
      have hle : w.heap.size ≤ w.heap.size + 1 := by omega
      exact ⟨⟨oa, oc, rfl, own_base hX hle⟩, HB.out⟩
end Go.Proofs.Ytemejcbilhcebaa

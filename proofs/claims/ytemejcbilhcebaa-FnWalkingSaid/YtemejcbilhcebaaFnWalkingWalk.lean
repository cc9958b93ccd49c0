import Derived.Test.YtemejcbilhcebaaDrawSw
import Derived.Test.YtemejcbilhcebaaMk48
import Derived.Deep.DeepCutAuto
import Derived.Deep.RegionLaw
import Derived.BigQuiet
namespace Go.Proofs.Ytemejcbilhcebaa.fnWalking
open Go.RowKit
set_option linter.unusedVariables false
set_option linter.unusedSimpArgs false

theorem wfW {z : Int} (h0 : -1000000 ≤ z) (h1 : z ≤ 1000000) : (Lit.int .i64 z).wf = true := by
  simp [Lit.wf, IntKind.bits, IntKind.signed, IntKind.min, IntKind.max]; omega
theorem wk_fit {ws : List WlkD} (h : ∀ x ∈ ws, WkIn x) : WalksFit ws := fun x hx => by
  obtain ⟨⟨a0, a1⟩, ⟨b0, b1⟩, m0, m1⟩ := h x hx
  exact ⟨wfW (by omega) (by omega), wfW (by omega) (by omega), wfW (by omega) (by omega)⟩

structure InW (W w : World) (nb : Nat) (nv lv s0 l0 : Value) (d : NetD) (ws : List WlkD) : Prop where
  bel : Below W.heap.size W w
  net : NetAt w nv d
  lst : WalksAt w lv ws
  n0 : w.cell? ⟨nb, 0, none⟩ = some s0
  n1 : w.cell? ⟨nb, 1, none⟩ = some l0
theorem InW.below {W w w' : World} {nb : Nat} {nv lv s0 l0 : Value} {d : NetD} {ws : List WlkD} (h : InW W w nb nv lv s0 l0 d ws) (hb : Below w.heap.size w w') : InW W w' nb nv lv s0 l0 d ws :=
  ⟨h.bel.trans (hb.mono h.bel.size), h.net.below rfl hb, h.lst.below rfl hb, bkeep hb h.n0, bkeep hb h.n1⟩

def RowB (e : Ending) (w w' : World) (R : List Int) (b : Bool) : Prop := (∃ z, e = .returned (.tuple #[z, .bool b]) ∧ RowAt w' z (ints R)) ∧ Below w.heap.size w w'
theorem rowB {e : Ending} {w w' : World} {R : List Int} {b : Bool} (h : IntsB w.heap.size R b e w' ∧ Below w.heap.size w w') : RowB e w w' R b := by
  obtain ⟨⟨z, he, hz⟩, hb⟩ := h; exact ⟨⟨z, he, hz.at⟩, hb⟩
def WlkB (e : Ending) (w w' : World) (R : List WlkD) (b : Bool) : Prop := (∃ z, e = .returned (.tuple #[z, .bool b]) ∧ WalksAt w' z R) ∧ Below w.heap.size w w'
theorem wlkB {e : Ending} {w w' : World} {R : List WlkD} {b : Bool} (h : WlksB w.heap.size R b e w' ∧ Below w.heap.size w w') : WlkB e w w' R b := by
  obtain ⟨⟨z, he, hz⟩, hb⟩ := h; exact ⟨⟨z, he, hz.at⟩, hb⟩

theorem sw_facts {d : NetD} {ws : List WlkD} {f t : Int} (h : swOk d ws f t = true) :
    wtOk d ws f = true ∧ (0 ≤ t ∧ t < (d.stops.length : Int)) ∧ 1 ≤ (swAns d ws f t).length ∧ (swAns d ws f t).length ≤ 8 ∧ (swAns d ws f t).getD 0 0 = f ∧ (swAns d ws f t).getD ((swAns d ws f t).length - 1) 0 = t ∧
    (∀ x ∈ swAns d ws f t, 0 ≤ x) ∧ stepSum ws (swAns d ws f t) ((swAns d ws f t).length - 1) = wat (wt ws d.stops.length f.toNat) t.toNat ∧
    ∀ i, i + 1 < (swAns d ws f t).length → 0 ≤ minsI ws ((swAns d ws f t).getD i 0).toNat ((swAns d ws f t).getD (i + 1) 0).toNat := by
  have hh := h
  unfold swOk at hh
  simp only [Bool.and_eq_true, decide_eq_true_eq, Bool.not_eq_true', List.isEmpty_eq_false_iff] at hh
  obtain ⟨h1, ⟨t0, t1⟩, hne⟩ := hh
  obtain ⟨hg, hv, f0, f1⟩ := wtOk_parts h1
  have hn8 : d.stops.length ≤ 8 := hg.1.2.1
  have hf : f.toNat < d.stops.length := by omega
  have ht : t.toNat < d.stops.length := by omega
  have ha : swAns d ws f t = fwI (swC d ws f t) := by unfold swAns; rw [if_pos h]
  have hch : IsChn ws f.toNat (swC d ws f t) ∧ sOf (swC d ws f t) = t.toNat := by
    rcases (firstW_ok hv hf).each t.toNat with e | g
    · exact absurd e hne
    · exact g
  obtain ⟨g1, g2, g3, g4, g5, g6⟩ := chn_steps hv hch.1
  have hml := mOf_le hv hf hn8 t.toNat
  have hmt := wt_minT hv hf ht
  rw [ha, g1]
  refine ⟨h1, ⟨t0, t1⟩, by omega, hml.2, by rw [g3]; omega, by rw [g4, hch.2]; omega, fun x hx => ?_, ?_, g6⟩
  · unfold fwI at hx
    obtain ⟨y, -, rfl⟩ := List.mem_map.1 hx
    omega
  · rw [g5, hmt]
    show _ = minT (swC d ws f t)
    unfold minT
    rw [if_neg (by simpa using hne)]
theorem steps_bd {n : Nat} {ws : List WlkD} (hv : WksOk n ws) (R : List Int) : ∀ i : Nat, (∀ k, k < i → 0 ≤ minsI ws (R.getD k 0).toNat (R.getD (k + 1) 0).toNat) → 0 ≤ stepSum ws R i ∧ stepSum ws R i ≤ 120 * i
  | 0, _ => by simp [stepSum]
  | i + 1, h => by
    have ih := steps_bd hv R i (fun k hk => h k (by omega))
    have h1 := h i (by omega)
    have h2 := minsI_le hv (R.getD i 0).toNat (R.getD (i + 1) 0).toNat
    simp only [stepSum]
    push_cast
    omega
theorem wat_bd {n f : Nat} {ws : List WlkD} (hv : WksOk n ws) (hf : f < n) (hn : n ≤ 8) (s : Nat) (hs : s < n) : -1 ≤ wat (wt ws n f) s ∧ wat (wt ws n f) s ≤ 1000 := by
  rw [wt_minT hv hf hs]
  have := (mOf_le hv hf hn s).1
  unfold minT
  split <;> omega

set_option maxRecDepth 100000 in
set_option maxHeartbeats 16000000 in
theorem walk (v0 : Value) (W : World) (S0 : CodeAt W v0) (hL : laidMetH Try.prog Rows.fnWalkingRow.laid W) (hsh : W.ShapedOpen Try.prog) :
    Calls Try.prog 5 #[v0] W fun e w' => e = .returned (.bool true) ∧ Below W.heap.size W w' := by
  clear hL hsh
  have HD := Lib.hid (drawSw_any v0 W S0)
  obtain ⟨l, a, c, rfl, h1, h2, h3⟩ := S0
  clear h3
  obtain ⟨b1, b2⟩ := rBig_any a _ c W (show (l.map byteV).length ≤ maxLen by unfold maxLen at *; omega)
  generalize (l.map byteV).length = n at *
  by_cases hbig : 65536 < n
  · have HB := Lib.hid (b1 hbig)
    clear b1 b2
    go_enter Try.func5, Try.ntmps5
    go_wp2_with (go_at_call 17; refine HB.out.mono ?_; rintro e w' ⟨rfl, rfl⟩)
    go_ret
    exact ⟨rfl, Below.refl _ _⟩
  have HB := Lib.hid (b2 (by omega))
  clear b1 b2
  go_enter Try.func5, Try.ntmps5
  go_wp2_with fail
  go_at_call 17
  refine HB.out.mono ?_
  rintro e w' ⟨rfl, rfl⟩
  clear HB
  go_wp2_with fail
  go_at_call 30
  refine HD.out.mono ?_
  rintro e w1 ⟨⟨d, sa, sc, oa, oc, ws, la, lc, f, t, rfl, hdr, ⟨fa, fb⟩, ⟨ta, tb⟩⟩, hb⟩
  clear HD hbig h1 h2 l
  obtain ⟨hf, hs⟩ := any_fits hdr.1.1.1 hdr.1.1.2.1 hdr.1.1.2.2
  have hwl := hdr.2.1.1
  have hwf := wk_fit hdr.2.1.2
  have hIn : ∀ u, InW W (w1.alloc (.cells #[.slice sa d.stops.length sc, .slice oa d.lines.length oc] u)) w1.heap.size (.agg #[.slice sa d.stops.length sc, .slice oa d.lines.length oc]) (.slice la ws.length lc) (.slice sa d.stops.length sc) (.slice oa d.lines.length oc) d ws := fun u =>
    ⟨hb.trans ((Below.refl _ _).alloc hb.size _), hdr.1.2.at.below rfl ((Below.refl _ _).alloc (Nat.le_refl _) _), (walksAt_own hdr.2.2).below rfl ((Below.refl _ _).alloc (Nat.le_refl _) _), by go_simp, by go_simp⟩
  have hIn := hIn 27
  have HF := Lib.hid hf
  have HSI := Lib.hid (fun w (h : NetAt w (.agg #[.slice sa d.stops.length sc, .slice oa d.lines.length oc]) d) (g : WalksAt w (.slice la ws.length lc) ws) => (implShortest_any _ _ d ws f t w h g hf).mono (R' := fun e w' => RowB e w w' (swAns d ws f t) (swOk d ws f t)) (fun e w' h => rowB h))
  have HSS := Lib.hid (fun w (h : NetAt w (.agg #[.slice sa d.stops.length sc, .slice oa d.lines.length oc]) d) (g : WalksAt w (.slice la ws.length lc) ws) => (specShortest_any _ _ d ws f t w h g hf hwf).mono (R' := fun e w' => RowB e w w' (swAns d ws f t) (swOk d ws f t)) (fun e w' h => rowB h))
  have HTI := Lib.hid (fun w (h : NetAt w (.agg #[.slice sa d.stops.length sc, .slice oa d.lines.length oc]) d) (g : WalksAt w (.slice la ws.length lc) ws) => (implWalkingTimes_any _ _ d ws f w h g hf).mono (R' := fun e w' => RowB e w w' (wtAns d ws f) (wtOk d ws f)) (fun e w' h => rowB h))
  have HTS := Lib.hid (fun w (h : NetAt w (.agg #[.slice sa d.stops.length sc, .slice oa d.lines.length oc]) d) (g : WalksAt w (.slice la ws.length lc) ws) => (specWalkingTimes_any _ _ d ws f w h g hf hwf).mono (R' := fun e w' => RowB e w w' (wtAns d ws f) (wtOk d ws f)) (fun e w' h => rowB h))
  have HVI := Lib.hid (fun w (h : NetAt w (.agg #[.slice sa d.stops.length sc, .slice oa d.lines.length oc]) d) (g : WalksAt w (.slice la ws.length lc) ws) => implWalks_any _ _ d ws w h g hf)
  have HCI := Lib.hid (fun w (h : NetAt w (.agg #[.slice sa d.stops.length sc, .slice oa d.lines.length oc]) d) (g : WalksAt w (.slice la ws.length lc) ws) => (implClose_any _ _ d ws w h g hf).mono (R' := fun e w' => WlkB e w w' (clAns d ws) (clOk d ws)) (fun e w' h => wlkB h))
  have HCS := Lib.hid (fun w (h : NetAt w (.agg #[.slice sa d.stops.length sc, .slice oa d.lines.length oc]) d) (g : WalksAt w (.slice la ws.length lc) ws) => (specClose_any _ _ d ws w h g hf).mono (R' := fun e w' => WlkB e w w' (clAns d ws) (clOk d ws)) (fun e w' h => wlkB h))
  have HSF := Lib.hid (fun h => sw_facts (d := d) (ws := ws) (f := f) (t := t) h)
  have HWP := Lib.hid (fun h => wtOk_parts (n := d) (ws := ws) (s := f) h)
  clear hdr hb hs
  obtain ⟨SA, hSA⟩ : ∃ SA, swAns d ws f t = SA := ⟨_, rfl⟩
  obtain ⟨so, hso⟩ : ∃ so, swOk d ws f t = so := ⟨_, rfl⟩
  obtain ⟨TA, hTA⟩ : ∃ TA, wtAns d ws f = TA := ⟨_, rfl⟩
  obtain ⟨tok, hto⟩ : ∃ tok, wtOk d ws f = tok := ⟨_, rfl⟩
  rw [hSA, hso] at HSI HSS HSF
  rw [hTA, hto] at HTI HTS
  rw [hto] at HSF HWP
  have HTA := Lib.hid hTA
  have HTO := Lib.hid hto
  clear hSA hso hTA hto hf hwf
  obtain ⟨p0, p1⟩ := And.intro hIn.n0 hIn.n1
  go_wp2_with fail
  obtain ⟨w2, hw2⟩ : ∃ w2 : World, w2 = w1.alloc (.cells #[.slice sa d.stops.length sc, .slice oa d.lines.length oc] 27) := ⟨_, rfl⟩
  rw [← hw2] at hIn p0 p1 ⊢
  generalize w1.heap.size = nb at *
  have HIn := Lib.hid hIn
  clear hw2 hIn
  go_at_call 31
  refine (HSI.out w2 HIn.out.net HIn.out.lst).mono ?_
  rintro e w3 ⟨⟨z, rfl, hrow⟩, hb⟩
  have HG := Lib.hid hrow
  obtain ⟨sga, sgc, rfl, -, -, -⟩ := ints_open hrow
  clear hrow
  have HIn := Lib.hid (HIn.out.below hb)
  clear hb p0 p1
  obtain ⟨p0, p1⟩ := And.intro HIn.out.n0 HIn.out.n1
  clear HSI
  go_wp2_with fail
  go_at_call 32
  refine (HSS.out w3 HIn.out.net HIn.out.lst).mono ?_
  rintro e w4 ⟨⟨z, rfl, hrow⟩, hb⟩
  have HW := Lib.hid hrow
  obtain ⟨swa, swc, rfl, -, -, -⟩ := ints_open hrow
  clear hrow
  have HG := Lib.hid (HG.out.below rfl hb)
  have HIn := Lib.hid (HIn.out.below hb)
  clear hb p0 p1
  obtain ⟨p0, p1⟩ := And.intro HIn.out.n0 HIn.out.n1
  clear HSS
  go_wp2_with fail
  go_at_call 26
  refine (rInts_any _ _ SA w4 HG.out HW.out).mono ?_
  rintro e w5 ⟨rfl, hb⟩
  have HG := Lib.hid (HG.out.below rfl hb)
  have HIn := Lib.hid (HIn.out.below hb)
  clear hb p0 p1
  obtain ⟨p0, p1⟩ := And.intro HIn.out.n0 HIn.out.n1
  clear HW
  go_wp2_with fail
  go_at_call 33
  refine (HTI.out w5 HIn.out.net HIn.out.lst).mono ?_
  rintro e w6 ⟨⟨z, rfl, hrow⟩, hb⟩
  have HT := Lib.hid hrow
  obtain ⟨tga, tgc, rfl, -, -, -⟩ := ints_open hrow
  clear hrow
  have HG := Lib.hid (HG.out.below rfl hb)
  have HIn := Lib.hid (HIn.out.below hb)
  clear hb p0 p1
  obtain ⟨p0, p1⟩ := And.intro HIn.out.n0 HIn.out.n1
  clear HTI
  go_wp2_with fail
  go_at_call 34
  refine (HTS.out w6 HIn.out.net HIn.out.lst).mono ?_
  rintro e w7 ⟨⟨z, rfl, hrow⟩, hb⟩
  have HW := Lib.hid hrow
  obtain ⟨twa, twc, rfl, -, -, -⟩ := ints_open hrow
  clear hrow
  have HG := Lib.hid (HG.out.below rfl hb)
  have HT := Lib.hid (HT.out.below rfl hb)
  have HIn := Lib.hid (HIn.out.below hb)
  clear hb p0 p1
  obtain ⟨p0, p1⟩ := And.intro HIn.out.n0 HIn.out.n1
  clear HTS
  go_wp2_with fail
  go_at_call 26
  refine (rInts_any _ _ TA w7 HT.out HW.out).mono ?_
  rintro e w8 ⟨rfl, hb⟩
  have HG := Lib.hid (HG.out.below rfl hb)
  have HT := Lib.hid (HT.out.below rfl hb)
  have HIn := Lib.hid (HIn.out.below hb)
  clear hb p0 p1
  obtain ⟨p0, p1⟩ := And.intro HIn.out.n0 HIn.out.n1
  clear HW
  cases tok
  · obtain rfl : so = false := by
      cases so
      · rfl
      · have := (HSF.out rfl).1; cases this
    clear HSF HG HWP HVI
    have HB0 := HIn
    go_wp2_with fail
    go_loopw [18] (fun q wr => ∃ k : Nat, q = .int .i64 (k : Int) ∧ k = 0 ∧ wr = w8) (fun q _ => 0)
    case atStart => exact ⟨0, rfl, rfl, rfl⟩
    case round =>
      obtain ⟨k, rfl, rfl, rfl⟩ := hrel
      by_cases hl0 : (0 : Int) < (ws.length : Int)
      · go_wp2_with fail
        go_at_call 37
        refine (HCI.out wr HIn.out.net HIn.out.lst).mono ?_
        rintro e w9 ⟨⟨z, rfl, hrow⟩, hb⟩
        have HC1 := Lib.hid hrow
        obtain ⟨caa, cac, rfl⟩ := WalkS_open hrow
        clear hrow
        have HIn := Lib.hid (HIn.out.below hb)
        clear hb p0 p1
        obtain ⟨p0, p1⟩ := And.intro HIn.out.n0 HIn.out.n1
        clear HCI
        go_wp2_with fail
        go_at_call 38
        refine (HCS.out w9 HIn.out.net HIn.out.lst).mono ?_
        rintro e w10 ⟨⟨z, rfl, hrow⟩, hb⟩
        have HC2 := Lib.hid hrow
        obtain ⟨cba, cbc, rfl⟩ := WalkS_open hrow
        clear hrow
        have HC1 := Lib.hid (HC1.out.below rfl hb)
        have HIn := Lib.hid (HIn.out.below hb)
        clear hb p0 p1
        obtain ⟨p0, p1⟩ := And.intro HIn.out.n0 HIn.out.n1
        clear HCS
        go_wp2_with fail
        go_at_call 39
        refine (rWalks_any _ _ (clAns d ws) w10 HC1.out HC2.out).mono ?_
        rintro e w11 ⟨rfl, hb⟩
        have HC1 := Lib.hid (HC1.out.below rfl hb)
        have HIn := Lib.hid (HIn.out.below hb)
        clear hb p0 p1
        obtain ⟨p0, p1⟩ := And.intro HIn.out.n0 HIn.out.n1
        clear HC2
        cases hco : clOk d ws
        · go_wp2_with fail
          go_ret
          exact ⟨rfl, HIn.out.bel⟩
        · go_wp2_with fail
          go_ret
          exact ⟨rfl, HIn.out.bel⟩
      · go_wp2_with fail
        go_at_call 37
        refine (HCI.out wr HIn.out.net HIn.out.lst).mono ?_
        rintro e w9 ⟨⟨z, rfl, hrow⟩, hb⟩
        have HC1 := Lib.hid hrow
        obtain ⟨caa, cac, rfl⟩ := WalkS_open hrow
        clear hrow
        have HIn := Lib.hid (HIn.out.below hb)
        clear hb p0 p1
        obtain ⟨p0, p1⟩ := And.intro HIn.out.n0 HIn.out.n1
        clear HCI
        go_wp2_with fail
        go_at_call 38
        refine (HCS.out w9 HIn.out.net HIn.out.lst).mono ?_
        rintro e w10 ⟨⟨z, rfl, hrow⟩, hb⟩
        have HC2 := Lib.hid hrow
        obtain ⟨cba, cbc, rfl⟩ := WalkS_open hrow
        clear hrow
        have HC1 := Lib.hid (HC1.out.below rfl hb)
        have HIn := Lib.hid (HIn.out.below hb)
        clear hb p0 p1
        obtain ⟨p0, p1⟩ := And.intro HIn.out.n0 HIn.out.n1
        clear HCS
        go_wp2_with fail
        go_at_call 39
        refine (rWalks_any _ _ (clAns d ws) w10 HC1.out HC2.out).mono ?_
        rintro e w11 ⟨rfl, hb⟩
        have HC1 := Lib.hid (HC1.out.below rfl hb)
        have HIn := Lib.hid (HIn.out.below hb)
        clear hb p0 p1
        obtain ⟨p0, p1⟩ := And.intro HIn.out.n0 HIn.out.n1
        clear HC2
        cases hco : clOk d ws
        · go_wp2_with fail
          go_ret
          exact ⟨rfl, HIn.out.bel⟩
        · go_wp2_with fail
          go_ret
          exact ⟨rfl, HIn.out.bel⟩
  · obtain ⟨hgd, hv, f0, f1⟩ := HWP.out rfl
    have hn8 : d.stops.length ≤ 8 := hgd.1.2.1
    have hff : f.toNat < d.stops.length := by omega
    have hta : TA = wt ws d.stops.length f.toNat := by rw [← HTA.out]; unfold wtAns; rw [HTO.out]; rfl
    have htl : TA.length = d.stops.length := by rw [hta]; exact wt_len hv hff
    have hwb : walksB d ws = true := walksB_yes hgd hv
    rw [hwb] at HVI
    have HWN : Hid (0 ≤ f ∧ f < (d.stops.length : Int)) := ⟨f0, f1⟩
    have HTri := Lib.hid (fun k (hk : k < ws.length) => (⟨next_fwd hv (List.getElem_mem hk), walk_tri hv hff (List.getElem_mem hk), (hv.each _ (List.getElem_mem hk))⟩ : _ ∧ _ ∧ _))
    have HTl := Lib.hid htl
    have HTeq := Lib.hid hta
    have HTat := Lib.hid (fun s (h : s < TA.length) => (by
      have e : TA[s] = wat TA s := (wat_at h).symm
      rw [e, hta]; exact ⟨rfl, wat_bd hv hff hn8 s (by omega)⟩ : TA[s] = wat (wt ws d.stops.length f.toNat) s ∧ -1 ≤ wat (wt ws d.stops.length f.toNat) s ∧ wat (wt ws d.stops.length f.toNat) s ≤ 1000))
    have HVl := Lib.hid hv
    clear hwb hta htl hgd HWP
    go_wp2_with fail
    go_at_call 35
    refine (HVI.out w8 HIn.out.net HIn.out.lst).mono ?_
    rintro e w9 ⟨rfl, hb⟩
    have HG := Lib.hid (HG.out.below rfl hb)
    have HT := Lib.hid (HT.out.below rfl hb)
    have HIn := Lib.hid (HIn.out.below hb)
    clear hb p0 p1
    obtain ⟨p0, p1⟩ := And.intro HIn.out.n0 HIn.out.n1
    clear HVI
    cases so
    · clear HSF HG
      go_wp2_with fail
      go_loopw [18] (fun q wr => ∃ k : Nat, k ≤ ws.length ∧ q = .int .i64 (k : Int) ∧ Hid (Below w9.heap.size w9 wr)) (fun q _ => ws.length - (RowKit.intOf q).toNat)
      case atStart => exact ⟨0, Nat.zero_le _, rfl, Below.refl _ _⟩
      case round =>
        obtain ⟨k, hk, rfl, HBr⟩ := hrel
        have HIn := Lib.hid (HIn.out.below HBr.out)
        have HT := Lib.hid (HT.out.below rfl HBr.out)
        clear p0 p1
        obtain ⟨p0, p1⟩ := And.intro HIn.out.n0 HIn.out.n1
        by_cases hlt : k < ws.length
        · have hkI : (k : Int) < (ws.length : Int) := by omega
          obtain ⟨⟨-, -, ha, hbb, hab⟩, ⟨hiff, htr1, htr2⟩, hxa, hxab, hxb, hxm0, hxm1⟩ := HTri.out k hlt
          obtain ⟨g, go, hla, hgb, y0, y1, y2⟩ := walk_at HIn.out.lst k hlt
          subst hla
          obtain ⟨_, _, he, -, -, HX⟩ := ints_open HT.out
          simp at he
          obtain ⟨rfl, rfl⟩ := he
          have hTl := HTl.out
          obtain ⟨tb, tof, hza, -, oa⟩ := HX.out ws[k].a.toNat (by omega)
          first
            | subst hza
            | (simp at hza; obtain ⟨rfl, rfl⟩ := hza)
          obtain ⟨_, _, hza, -, ob⟩ := HX.out ws[k].b.toNat (by omega)
          simp at hza
          obtain ⟨rfl, rfl⟩ := hza
          have eA := HTat.out ws[k].a.toNat (by omega)
          have eB := HTat.out ws[k].b.toNat (by omega)
          rw [eA.1] at oa
          rw [eB.1] at ob
          have hA := eA.2
          have hBB := eB.2
          have q1 : (0 : Int) ≤ ws[k].a := hxa
          have q2 : ws[k].a < (TA.length : Int) := by omega
          have q3 : (0 : Int) ≤ ws[k].b := by omega
          have q4 : ws[k].b < (TA.length : Int) := by omega
          have q5 : ((ws[k].a.toNat : Nat) : Int) = ws[k].a := by omega
          have q6 : ((ws[k].b.toNat : Nat) : Int) = ws[k].b := by omega
          clear eA eB HX hab ha hbb hxa hxab hxb hTl
          generalize hAA : wat (wt ws d.stops.length f.toNat) ws[k].a.toNat = A at *
          generalize hBBB : wat (wt ws d.stops.length f.toNat) ws[k].b.toNat = B at *
          clear hAA hBBB
          obtain ⟨ea, hea⟩ : ∃ ea, ws[k].a.toNat = ea := ⟨_, rfl⟩
          obtain ⟨eb, heb⟩ : ∃ eb, ws[k].b.toNat = eb := ⟨_, rfl⟩
          rw [hea] at q5 oa
          rw [heb] at q6 ob
          clear hea heb
          rw [← q5] at y0 q1 q2
          rw [← q6] at y1 q3 q4
          clear q5 q6
          generalize ws[k].m = xm at *
          have hs1 : IntKind.i64.wrap (B + xm) = B + xm := IntWalk.i64_in _ (by omega)
          have hs2 : IntKind.i64.wrap (A + xm) = A + xm := IntWalk.i64_in _ (by omega)
          have hd1 : decide (B + xm < A) = false := decide_eq_false (by omega)
          have hd2 : decide (A + xm < B) = false := decide_eq_false (by omega)
          have hk0 : (0 : Int) ≤ (k : Int) := by omega
          clear p0 p1
          by_cases hneg : A < 0
          · have hnb : B < 0 := hiff.1 hneg
            clear hiff htr1 htr2
            go_wp2_with (go_quiet (fail))
            go_roundw
            case rel => exact ⟨k + 1, by omega, by go_num, below_drewN HBr.out _⟩
            case measure => simp [RowKit.intOf] <;> omega
          · have hnb : ¬ B < 0 := fun h => hneg (hiff.2 h)
            clear hiff htr1 htr2
            go_wp2_with (go_quiet (fail))
            go_roundw
            case rel => exact ⟨k + 1, by omega, by go_num, below_drewN HBr.out _⟩
            case measure => simp [RowKit.intOf] <;> omega
        · have hkI : ¬ (k : Int) < (ws.length : Int) := by omega
          obtain ⟨wq, hwq⟩ : ∃ X : World, X = wr := ⟨_, rfl⟩
          subst hwq
          go_wp2_with fail
          go_at_call 37
          refine (HCI.out wq HIn.out.net HIn.out.lst).mono ?_
          rintro e w10 ⟨⟨z, rfl, hrow⟩, hb⟩
          have HC1 := Lib.hid hrow
          obtain ⟨caa, cac, rfl⟩ := WalkS_open hrow
          clear hrow
          have HT := Lib.hid (HT.out.below rfl hb)
          have HIn := Lib.hid (HIn.out.below hb)
          clear hb p0 p1
          obtain ⟨p0, p1⟩ := And.intro HIn.out.n0 HIn.out.n1
          clear HCI
          go_wp2_with fail
          go_at_call 38
          refine (HCS.out w10 HIn.out.net HIn.out.lst).mono ?_
          rintro e w11 ⟨⟨z, rfl, hrow⟩, hb⟩
          have HC2 := Lib.hid hrow
          obtain ⟨cba, cbc, rfl⟩ := WalkS_open hrow
          clear hrow
          have HC1 := Lib.hid (HC1.out.below rfl hb)
          have HT := Lib.hid (HT.out.below rfl hb)
          have HIn := Lib.hid (HIn.out.below hb)
          clear hb p0 p1
          obtain ⟨p0, p1⟩ := And.intro HIn.out.n0 HIn.out.n1
          clear HCS
          go_wp2_with fail
          go_at_call 39
          refine (rWalks_any _ _ (clAns d ws) w11 HC1.out HC2.out).mono ?_
          rintro e w12 ⟨rfl, hb⟩
          have HC1 := Lib.hid (HC1.out.below rfl hb)
          have HT := Lib.hid (HT.out.below rfl hb)
          have HIn := Lib.hid (HIn.out.below hb)
          clear hb p0 p1
          obtain ⟨p0, p1⟩ := And.intro HIn.out.n0 HIn.out.n1
          clear HC2
          cases hco : clOk d ws
          · go_wp2_with fail
            go_ret
            exact ⟨rfl, HIn.out.bel⟩
          · obtain ⟨hv1, hv2⟩ : WksOk d.stops.length ws ∧ WksOk d.stops.length (clF ws d.stops.length d.stops.length) := by
              unfold clOk at hco
              simp only [Bool.and_eq_true] at hco
              exact ⟨(walksB_iff hco.1).2, (walksB_iff hco.2).2⟩
            have hg : NetGood d := by
              unfold clOk at hco
              simp only [Bool.and_eq_true] at hco
              exact (walksB_iff hco.1).1
            have hcl : clAns d ws = clF ws d.stops.length d.stops.length := by unfold clAns; rw [if_pos hco]; rfl
            have hwb : walksB d (clAns d ws) = true := by rw [hcl]; exact walksB_yes hg hv2
            have hN := HWN.out
            have hff : f.toNat < d.stops.length := by omega
            have hwo : wtOk d (clAns d ws) f = true := by unfold wtOk; rw [hwb]; simp; omega
            have hwa : wtAns d (clAns d ws) f = TA := by
              rw [← HTA.out]
              unfold wtAns
              rw [hwo, HTO.out, hcl, close_wt hv1 hv2 hff]
            have hus : usAns d (clAns d ws) = [] := by unfold usAns; rw [hwb, hcl, close_us hv1 hv2]; rfl
            have HTC := Lib.hid (fun w (h : InW W w nb (.agg #[.slice sa d.stops.length sc, .slice oa d.lines.length oc]) (.slice la ws.length lc) (.slice sa d.stops.length sc) (.slice oa d.lines.length oc) d ws) (g : WalksAt w (.slice caa (clAns d ws).length cac) (clAns d ws)) => (implWalkingTimes_any _ _ d (clAns d ws) f w h.net g HF.out).mono (R' := fun e w' => RowB e w w' TA true) (fun e w' h => by have := rowB h; rw [hwo, hwa] at this; exact this))
            have HUC := Lib.hid (fun w (h : InW W w nb (.agg #[.slice sa d.stops.length sc, .slice oa d.lines.length oc]) (.slice la ws.length lc) (.slice sa d.stops.length sc) (.slice oa d.lines.length oc) d ws) (g : WalksAt w (.slice caa (clAns d ws).length cac) (clAns d ws)) => (implUseless_any _ _ d (clAns d ws) w h.net g HF.out).mono (R' := fun e w' => RowB e w w' [] true) (fun e w' h => by have := rowB h; rw [hwb, hus] at this; exact this))
            clear hwb hwo hwa hus hcl hg hv1 hv2 hN hff hco
            go_wp2_with fail
            go_at_call 33
            refine (HTC.out w12 HIn.out HC1.out).mono ?_
            rintro e w13 ⟨⟨z, rfl, hrow⟩, hb⟩
            have HA := Lib.hid hrow
            obtain ⟨aga, agc, rfl, -, -, -⟩ := ints_open hrow
            clear hrow
            have HC1 := Lib.hid (HC1.out.below rfl hb)
            have HT := Lib.hid (HT.out.below rfl hb)
            have HIn := Lib.hid (HIn.out.below hb)
            clear hb p0 p1
            obtain ⟨p0, p1⟩ := And.intro HIn.out.n0 HIn.out.n1
            clear HTC
            go_wp2_with fail
            go_at_call 40
            refine (HUC.out w13 HIn.out HC1.out).mono ?_
            rintro e w14 ⟨⟨z, rfl, hrow⟩, hb⟩
            obtain ⟨ua, uc, rfl, -, -, -⟩ := ints_open hrow
            clear hrow
            have HT := Lib.hid (HT.out.below rfl hb)
            have HA := Lib.hid (HA.out.below rfl hb)
            have HIn := Lib.hid (HIn.out.below hb)
            clear hb p0 p1
            obtain ⟨p0, p1⟩ := And.intro HIn.out.n0 HIn.out.n1
            clear HUC
            go_wp2_with fail
            go_at_call 26
            refine (rInts_any _ _ TA w14 HA.out HT.out).mono ?_
            rintro e w15 ⟨rfl, hb⟩
            have HIn := Lib.hid (HIn.out.below hb)
            clear hb p0 p1
            obtain ⟨p0, p1⟩ := And.intro HIn.out.n0 HIn.out.n1
            clear HA HT HC1
            go_wp2_with fail
            go_ret
            exact ⟨rfl, HIn.out.bel⟩
    · obtain ⟨-, ⟨t0, t1⟩, l1, l8, e0, e1, hnn, hsum, hst⟩ := HSF.out rfl
      clear HSF
      obtain ⟨L, hL⟩ : ∃ L, SA.length = L + 1 := ⟨SA.length - 1, by omega⟩
      rw [hL, Nat.add_sub_cancel] at hsum e1
      have HSt := Lib.hid hst
      have HNn := Lib.hid hnn
      have HSu := Lib.hid hsum
      have HE0 := Lib.hid e0
      have HE1 := Lib.hid e1
      have HLl := Lib.hid hL
      have HBd := Lib.hid (fun i (hi : i + 1 ≤ SA.length) => steps_bd HVl.out SA i (fun k hk => hst k (by omega)))
      have hl9 : L ≤ 8 := by omega
      clear hst hnn hsum e0 e1 l1 l8 hL
      go_wp2_with fail
      go_loopw [15, 16] (fun s q wr => ∃ i : Nat, i ≤ L ∧ q = .int .i64 ((i : Int) + 1) ∧ s = .int .i64 (stepSum ws SA i) ∧ Hid (Below w9.heap.size w9 wr)) (fun _ q _ => L + 1 - (RowKit.intOf q).toNat)
      case atStart => exact ⟨0, Nat.zero_le _, by simp, by simp [stepSum], Below.refl _ _⟩
      case round =>
        obtain ⟨i, hi, rfl, rfl, HBr⟩ := hrel
        have HIn := Lib.hid (HIn.out.below HBr.out)
        have HT := Lib.hid (HT.out.below rfl HBr.out)
        have HG := Lib.hid (HG.out.below rfl HBr.out)
        clear p0 p1
        obtain ⟨p0, p1⟩ := And.intro HIn.out.n0 HIn.out.n1
        have hL := HLl.out
        have hlI : (SA.length : Int) = (L : Int) + 1 := by rw [hL]; simp
        by_cases hlt : i < L
        · have hcI : (i : Int) + 1 < (SA.length : Int) := by omega
          have hmi := HSt.out i (by omega)
          obtain ⟨x, hx, hnx, hmx⟩ := minsI_mem HVl.out hmi
          have hb1 := HBd.out i (by omega)
          have hb2 := HBd.out (i + 1) (by omega)
          have hse : stepSum ws SA (i + 1) = stepSum ws SA i + x.m := by rw [← hmx]; rfl
          rw [hse] at hb2
          have HSe := Lib.hid hse
          obtain ⟨_, _, he, -, -, HX⟩ := ints_open HG.out
          simp at he
          obtain ⟨rfl, rfl⟩ := he
          obtain ⟨gb, gof, hza, -, o1⟩ := HX.out i (by omega)
          subst hza
          obtain ⟨_, _, hza, -, o2⟩ := HX.out (i + 1) (by omega)
          simp at hza
          obtain ⟨rfl, rfl⟩ := hza
          have eg1 : SA.getD i 0 = SA[i]'(by omega) := by simp [List.getD, show i < SA.length by omega]
          have eg2 : SA.getD (i + 1) 0 = SA[i + 1]'(by omega) := by simp [List.getD, show i + 1 < SA.length by omega]
          rw [eg1, eg2] at hnx
          have n1 := HNn.out _ (List.getElem_mem (show i < SA.length by omega))
          have n2 := HNn.out _ (List.getElem_mem (show i + 1 < SA.length by omega))
          clear eg1 eg2 hmi hmx hse HX
          generalize SA[i]'_ = A at *
          generalize SA[i + 1]'_ = B at *
          obtain ⟨A, rfl⟩ := Int.eq_ofNat_of_zero_le n1
          obtain ⟨B, rfl⟩ := Int.eq_ofNat_of_zero_le n2
          simp only [Int.toNat_natCast] at hnx
          have HMi := Lib.hid (fun w (h : WalksAt w (.slice la ws.length lc) ws) => rMinutes_any (.slice la ws.length lc) ws HVl.out A B x hx hnx w h)
          have hxm := (HVl.out.each x hx).2.2.2
          have hw1 : IntKind.i64.wrap ((i : Int) + 1 - 1) = (i : Int) := by rw [show (i : Int) + 1 - 1 = (i : Int) by omega]; exact IntWalk.i64_in _ (by omega)
          have hw1' : IntKind.i64.wrap (i : Int) = (i : Int) := IntWalk.i64_in _ (by omega)
          have hw2 : IntKind.i64.wrap (stepSum ws SA i + x.m) = stepSum ws SA i + x.m := IntWalk.i64_in _ (by omega)
          have hi0 : (0 : Int) ≤ (i : Int) := by omega
          have hi1 : (i : Int) < (SA.length : Int) := by omega
          have hi2 : (0 : Int) ≤ (i : Int) + 1 := by omega
          have hxn : ¬ x.m < 0 := by omega
          generalize stepSum ws SA i = sm at *
          generalize x.m = xm at *
          clear hx hnx n1 n2 hxm hb1 hb2 p0 p1
          have HBw := Lib.hid (Below.drew HBr.out)
          clear hL hlI
          go_upto_region 17 with fail
          refine wp_region_held_drew (S := (fun w' => w'.cell? ⟨gb, gof + i, none⟩ = some (.int .i64 (A : Int)) ∧ w'.cell? ⟨gb, gof + (i + 1), none⟩ = some (.int .i64 (B : Int)))) (by kernel_rfl) ?_ (fun hHeld => ?_)
          · exact ⟨o1, o2⟩
          refine wpAnyH_take (i := 0) (v := ?_) (by simp only [List.getElem?_toArray, List.getElem?_cons_zero]; rfl) (by kernel_rfl) (by kernel_rfl) (by kernel_rfl) (by exact fun _ _ _ h => h) (Or.inl ⟨by rfl, ?_⟩) (by assumption) ?_
          rotate_left
          · intro w' hSw; (try dsimp only at hSw); obtain ⟨e0, e1⟩ := hSw
            go_simp; try with_reducible rfl
          try simp only [Act.put, List.setIfInBounds_toArray, List.set_cons_zero, List.set_cons_succ]
          refine wpAnyH_take (i := 1) (v := ?_) (by simp only [List.getElem?_toArray, List.getElem?_cons_succ, List.getElem?_cons_zero]; rfl) (by kernel_rfl) (by kernel_rfl) (by kernel_rfl) (by exact fun _ _ _ h => h) (Or.inl ⟨by rfl, ?_⟩) (by assumption) ?_
          rotate_left
          · intro w' hSw; (try dsimp only at hSw); obtain ⟨e0, e1⟩ := hSw
            go_simp; try with_reducible rfl
          try simp only [Act.put, List.setIfInBounds_toArray, List.set_cons_zero, List.set_cons_succ]
          refine wpAnyH_take (i := 2) (v := ?_) (by simp only [List.getElem?_toArray, List.getElem?_cons_succ, List.getElem?_cons_zero]; rfl) (by kernel_rfl) (by kernel_rfl) (by kernel_rfl) (by exact fun _ _ _ h => h) (Or.inl ⟨by rfl, ?_⟩) (by assumption) ?_
          rotate_left
          · intro w' hSw; (try dsimp only at hSw); obtain ⟨e0, e1⟩ := hSw
            go_simp; try with_reducible rfl
          try simp only [Act.put, List.setIfInBounds_toArray, List.set_cons_zero, List.set_cons_succ]
          refine wpAnyH_take (i := 3) (v := ?_) (by simp only [List.getElem?_toArray, List.getElem?_cons_succ, List.getElem?_cons_zero]; rfl) (by kernel_rfl) (by kernel_rfl) (by kernel_rfl) (by exact fun _ _ _ h => h) (Or.inl ⟨by rfl, ?_⟩) (by assumption) ?_
          rotate_left
          · intro w' hSw; (try dsimp only at hSw); obtain ⟨e0, e1⟩ := hSw
            go_simp; try with_reducible rfl
          try simp only [Act.put, List.setIfInBounds_toArray, List.set_cons_zero, List.set_cons_succ]
          refine wpAnyH_take (i := 4) (v := ?_) (by simp only [List.getElem?_toArray, List.getElem?_cons_succ, List.getElem?_cons_zero]; rfl) (by kernel_rfl) (by kernel_rfl) (by kernel_rfl) (by exact fun _ _ _ h => h) (Or.inl ⟨by rfl, ?_⟩) (by assumption) ?_
          rotate_left
          · intro w' hSw; (try dsimp only at hSw); obtain ⟨e0, e1⟩ := hSw
            go_simp; try with_reducible rfl
          try simp only [Act.put, List.setIfInBounds_toArray, List.set_cons_zero, List.set_cons_succ]
          refine wpAnyH_take (i := 5) (v := ?_) (by simp only [List.getElem?_toArray, List.getElem?_cons_succ, List.getElem?_cons_zero]; rfl) (by kernel_rfl) (by kernel_rfl) (by kernel_rfl) (by exact fun _ _ _ h => h) (Or.inl ⟨by rfl, ?_⟩) (by assumption) ?_
          rotate_left
          · intro w' hSw; (try dsimp only at hSw); obtain ⟨e0, e1⟩ := hSw
            go_simp; try with_reducible rfl
          try simp only [Act.put, List.setIfInBounds_toArray, List.set_cons_zero, List.set_cons_succ]
          refine wpAnyH_take (i := 6) (v := ?_) (by simp only [List.getElem?_toArray, List.getElem?_cons_succ, List.getElem?_cons_zero]; rfl) (by kernel_rfl) (by kernel_rfl) (by kernel_rfl) (by exact fun _ _ _ h => h) (Or.inl ⟨by rfl, ?_⟩) (by assumption) ?_
          rotate_left
          · intro w' hSw; (try dsimp only at hSw); obtain ⟨e0, e1⟩ := hSw
            go_simp; try with_reducible rfl
          try simp only [Act.put, List.setIfInBounds_toArray, List.set_cons_zero, List.set_cons_succ]
          refine wpAnyH_take (i := 7) (v := ?_) (by simp only [List.getElem?_toArray, List.getElem?_cons_succ, List.getElem?_cons_zero]; rfl) (by kernel_rfl) (by kernel_rfl) (by kernel_rfl) (by exact fun _ _ _ h => h) (Or.inl ⟨by rfl, ?_⟩) (by assumption) ?_
          rotate_left
          · intro w' hSw; (try dsimp only at hSw); obtain ⟨e0, e1⟩ := hSw
            go_simp; try with_reducible rfl
          try simp only [Act.put, List.setIfInBounds_toArray, List.set_cons_zero, List.set_cons_succ]
          refine wpAnyH_take (i := 8) (v := ?_) (by simp only [List.getElem?_toArray, List.getElem?_cons_succ, List.getElem?_cons_zero]; rfl) (by kernel_rfl) (by kernel_rfl) (by kernel_rfl) (by exact fun _ _ _ h => h) (Or.inl ⟨by rfl, ?_⟩) (by assumption) ?_
          rotate_left
          · intro w' hSw; (try dsimp only at hSw); obtain ⟨e0, e1⟩ := hSw
            go_simp; try with_reducible rfl
          try simp only [Act.put, List.setIfInBounds_toArray, List.set_cons_zero, List.set_cons_succ]
          refine wpAnyH_take (i := 9) (v := ?_) (by simp only [List.getElem?_toArray, List.getElem?_cons_succ, List.getElem?_cons_zero]; rfl) (by kernel_rfl) (by kernel_rfl) (by kernel_rfl) (by exact fun _ _ _ h => h) (Or.inl ⟨by rfl, ?_⟩) (by assumption) ?_
          rotate_left
          · intro w' hSw; (try dsimp only at hSw); obtain ⟨e0, e1⟩ := hSw
            go_simp; try with_reducible rfl
          try simp only [Act.put, List.setIfInBounds_toArray, List.set_cons_zero, List.set_cons_succ]
          refine wpAnyH_ready (rs := [10]) (by kernel_rfl) (by simp) ?_
          refine AllReadyH.cons (by simp only [List.getElem?_toArray, List.getElem?_cons_succ, List.getElem?_cons_zero]; rfl) (fun K hK => ?_) AllReadyH.nil
          go_simp
          go_at_call 36
          refine (HMi.out _ ((HIn.out.below (Below.refl wr.heap.size wr).drew).lst)).mono ?_
          rintro e u1 ⟨rfl, rfl⟩
          go_wp2_with fail
          refine hK.out _ _ ⟨o1, o2⟩ (fun hHa1 => ?_)
          clear hK K
          try simp only [Act.put, List.setIfInBounds_toArray, List.set_cons_zero, List.set_cons_succ]
          refine wpAnyH_take (i := 11) (v := ?_) (by simp only [List.getElem?_toArray, List.getElem?_cons_succ, List.getElem?_cons_zero]; rfl) (by kernel_rfl) (by kernel_rfl) (by kernel_rfl) (by exact fun _ _ _ h => h) (Or.inl ⟨by rfl, ?_⟩) (by assumption) ?_
          rotate_left
          · intro w' hSw; (try dsimp only at hSw); obtain ⟨e0, e1⟩ := hSw
            go_simp; try with_reducible rfl
          try simp only [Act.put, List.setIfInBounds_toArray, List.set_cons_zero, List.set_cons_succ]
          refine wpAnyH_done (by kernel_rfl) ?_ _
          clear hHeld o1 o2 HMi
          go_wp2_with fail
          go_roundw
          case rel => exact ⟨i + 1, by omega, by first | go_num | (congr 1; push_cast; omega), by rw [HSe.out], HBw.out⟩
          case measure => simp [RowKit.intOf] <;> omega
        · obtain rfl : i = L := by omega
          have hcI : ¬ (i : Int) + 1 < (SA.length : Int) := by omega
          obtain ⟨_, _, he, -, -, HX⟩ := ints_open HG.out
          simp at he
          obtain ⟨rfl, rfl⟩ := he
          obtain ⟨gb, gof, hza, -, o1⟩ := HX.out 0 (by omega)
          subst hza
          obtain ⟨_, _, hza, -, o2⟩ := HX.out i (by omega)
          simp at hza
          obtain ⟨rfl, rfl⟩ := hza
          have eg1 : SA[0]'(by omega) = f := by rw [← HE0.out]; simp [List.getD, show 0 < SA.length by omega]
          have eg2 : SA[i]'(by omega) = t := by rw [← HE1.out]; simp [List.getD, show i < SA.length by omega]
          rw [eg1, Nat.add_zero] at o1
          rw [eg2] at o2
          obtain ⟨_, _, he, -, -, HXt⟩ := ints_open HT.out
          simp at he
          obtain ⟨rfl, rfl⟩ := he
          have hTl := HTl.out
          obtain ⟨tb', tof', hza, -, o3⟩ := HXt.out t.toNat (by omega)
          subst hza
          rw [(HTat.out t.toNat (by omega)).1] at o3
          rw [← HSu.out] at o3
          obtain ⟨T, rfl⟩ := Int.eq_ofNat_of_zero_le t0
          simp only [Int.toNat_natCast] at o3
          have t2 : (T : Int) < (TA.length : Int) := by omega
          have hs0 : (0 : Int) < (SA.length : Int) := by omega
          have hs1 : IntKind.i64.wrap ((SA.length : Int) - 1) = (i : Int) := by rw [hlI]; exact (IntWalk.i64_in _ (by omega)).trans (by omega)
          have hs2 : (i : Int) < (SA.length : Int) := by omega
          have hs3 : (0 : Int) ≤ (i : Int) := by omega
          clear eg1 eg2 HX HXt hTl hlt p0 p1 hL hlI
          generalize stepSum ws SA i = sm at *
          obtain ⟨wp, hwp⟩ : ∃ X : World, X = wr := ⟨_, rfl⟩
          subst hwp
          go_wp2_with fail
          clear o1 o2 o3
          obtain ⟨p0, p1⟩ := And.intro HIn.out.n0 HIn.out.n1
          go_loopw [18] (fun q wr => ∃ k : Nat, k ≤ ws.length ∧ q = .int .i64 (k : Int) ∧ Hid (Below wp.heap.size wp wr)) (fun q _ => ws.length - (RowKit.intOf q).toNat)
          case atStart => exact ⟨0, Nat.zero_le _, rfl, Below.refl _ _⟩
          case round =>
            obtain ⟨k, hk, rfl, HBr⟩ := hrel
            have HIn := Lib.hid (HIn.out.below HBr.out)
            have HT := Lib.hid (HT.out.below rfl HBr.out)
            clear p0 p1
            obtain ⟨p0, p1⟩ := And.intro HIn.out.n0 HIn.out.n1
            by_cases hlt : k < ws.length
            · have hkI : (k : Int) < (ws.length : Int) := by omega
              obtain ⟨⟨-, -, ha, hbb, hab⟩, ⟨hiff, htr1, htr2⟩, hxa, hxab, hxb, hxm0, hxm1⟩ := HTri.out k hlt
              obtain ⟨g, go, hla, hgb, y0, y1, y2⟩ := walk_at HIn.out.lst k hlt
              subst hla
              obtain ⟨_, _, he, -, -, HX⟩ := ints_open HT.out
              simp at he
              obtain ⟨rfl, rfl⟩ := he
              have hTl := HTl.out
              obtain ⟨tb, tof, hza, -, oa⟩ := HX.out ws[k].a.toNat (by omega)
              first
                | subst hza
                | (simp at hza; obtain ⟨rfl, rfl⟩ := hza)
              obtain ⟨_, _, hza, -, ob⟩ := HX.out ws[k].b.toNat (by omega)
              simp at hza
              obtain ⟨rfl, rfl⟩ := hza
              have eA := HTat.out ws[k].a.toNat (by omega)
              have eB := HTat.out ws[k].b.toNat (by omega)
              rw [eA.1] at oa
              rw [eB.1] at ob
              have hA := eA.2
              have hBB := eB.2
              have q1 : (0 : Int) ≤ ws[k].a := hxa
              have q2 : ws[k].a < (TA.length : Int) := by omega
              have q3 : (0 : Int) ≤ ws[k].b := by omega
              have q4 : ws[k].b < (TA.length : Int) := by omega
              have q5 : ((ws[k].a.toNat : Nat) : Int) = ws[k].a := by omega
              have q6 : ((ws[k].b.toNat : Nat) : Int) = ws[k].b := by omega
              clear eA eB HX hab ha hbb hxa hxab hxb hTl
              generalize hAA : wat (wt ws d.stops.length f.toNat) ws[k].a.toNat = A at *
              generalize hBBB : wat (wt ws d.stops.length f.toNat) ws[k].b.toNat = B at *
              clear hAA hBBB
              obtain ⟨ea, hea⟩ : ∃ ea, ws[k].a.toNat = ea := ⟨_, rfl⟩
              obtain ⟨eb, heb⟩ : ∃ eb, ws[k].b.toNat = eb := ⟨_, rfl⟩
              rw [hea] at q5 oa
              rw [heb] at q6 ob
              clear hea heb
              rw [← q5] at y0 q1 q2
              rw [← q6] at y1 q3 q4
              clear q5 q6
              generalize ws[k].m = xm at *
              have hs1 : IntKind.i64.wrap (B + xm) = B + xm := IntWalk.i64_in _ (by omega)
              have hs2 : IntKind.i64.wrap (A + xm) = A + xm := IntWalk.i64_in _ (by omega)
              have hd1 : decide (B + xm < A) = false := decide_eq_false (by omega)
              have hd2 : decide (A + xm < B) = false := decide_eq_false (by omega)
              have hk0 : (0 : Int) ≤ (k : Int) := by omega
              clear p0 p1
              by_cases hneg : A < 0
              · have hnb : B < 0 := hiff.1 hneg
                clear hiff htr1 htr2
                go_wp2_with (go_quiet (fail))
                go_roundw
                case rel => exact ⟨k + 1, by omega, by go_num, below_drewN HBr.out _⟩
                case measure => simp [RowKit.intOf] <;> omega
              · have hnb : ¬ B < 0 := fun h => hneg (hiff.2 h)
                clear hiff htr1 htr2
                go_wp2_with (go_quiet (fail))
                go_roundw
                case rel => exact ⟨k + 1, by omega, by go_num, below_drewN HBr.out _⟩
                case measure => simp [RowKit.intOf] <;> omega
            · have hkI : ¬ (k : Int) < (ws.length : Int) := by omega
              obtain ⟨wq, hwq⟩ : ∃ X : World, X = wr := ⟨_, rfl⟩
              subst hwq
              go_wp2_with fail
              go_at_call 37
              refine (HCI.out wq HIn.out.net HIn.out.lst).mono ?_
              rintro e w10 ⟨⟨z, rfl, hrow⟩, hb⟩
              have HC1 := Lib.hid hrow
              obtain ⟨caa, cac, rfl⟩ := WalkS_open hrow
              clear hrow
              have HT := Lib.hid (HT.out.below rfl hb)
              have HIn := Lib.hid (HIn.out.below hb)
              clear hb p0 p1
              obtain ⟨p0, p1⟩ := And.intro HIn.out.n0 HIn.out.n1
              clear HCI
              go_wp2_with fail
              go_at_call 38
              refine (HCS.out w10 HIn.out.net HIn.out.lst).mono ?_
              rintro e w11 ⟨⟨z, rfl, hrow⟩, hb⟩
              have HC2 := Lib.hid hrow
              obtain ⟨cba, cbc, rfl⟩ := WalkS_open hrow
              clear hrow
              have HC1 := Lib.hid (HC1.out.below rfl hb)
              have HT := Lib.hid (HT.out.below rfl hb)
              have HIn := Lib.hid (HIn.out.below hb)
              clear hb p0 p1
              obtain ⟨p0, p1⟩ := And.intro HIn.out.n0 HIn.out.n1
              clear HCS
              go_wp2_with fail
              go_at_call 39
              refine (rWalks_any _ _ (clAns d ws) w11 HC1.out HC2.out).mono ?_
              rintro e w12 ⟨rfl, hb⟩
              have HC1 := Lib.hid (HC1.out.below rfl hb)
              have HT := Lib.hid (HT.out.below rfl hb)
              have HIn := Lib.hid (HIn.out.below hb)
              clear hb p0 p1
              obtain ⟨p0, p1⟩ := And.intro HIn.out.n0 HIn.out.n1
              clear HC2
              cases hco : clOk d ws
              · go_wp2_with fail
                go_ret
                exact ⟨rfl, HIn.out.bel⟩
              · obtain ⟨hv1, hv2⟩ : WksOk d.stops.length ws ∧ WksOk d.stops.length (clF ws d.stops.length d.stops.length) := by
                  unfold clOk at hco
                  simp only [Bool.and_eq_true] at hco
                  exact ⟨(walksB_iff hco.1).2, (walksB_iff hco.2).2⟩
                have hg : NetGood d := by
                  unfold clOk at hco
                  simp only [Bool.and_eq_true] at hco
                  exact (walksB_iff hco.1).1
                have hcl : clAns d ws = clF ws d.stops.length d.stops.length := by unfold clAns; rw [if_pos hco]; rfl
                have hwb : walksB d (clAns d ws) = true := by rw [hcl]; exact walksB_yes hg hv2
                have hN := HWN.out
                have hff : f.toNat < d.stops.length := by omega
                have hwo : wtOk d (clAns d ws) f = true := by unfold wtOk; rw [hwb]; simp; omega
                have hwa : wtAns d (clAns d ws) f = TA := by
                  rw [← HTA.out]
                  unfold wtAns
                  rw [hwo, HTO.out, hcl, close_wt hv1 hv2 hff]
                have hus : usAns d (clAns d ws) = [] := by unfold usAns; rw [hwb, hcl, close_us hv1 hv2]; rfl
                have HTC := Lib.hid (fun w (h : InW W w nb (.agg #[.slice sa d.stops.length sc, .slice oa d.lines.length oc]) (.slice la ws.length lc) (.slice sa d.stops.length sc) (.slice oa d.lines.length oc) d ws) (g : WalksAt w (.slice caa (clAns d ws).length cac) (clAns d ws)) => (implWalkingTimes_any _ _ d (clAns d ws) f w h.net g HF.out).mono (R' := fun e w' => RowB e w w' TA true) (fun e w' h => by have := rowB h; rw [hwo, hwa] at this; exact this))
                have HUC := Lib.hid (fun w (h : InW W w nb (.agg #[.slice sa d.stops.length sc, .slice oa d.lines.length oc]) (.slice la ws.length lc) (.slice sa d.stops.length sc) (.slice oa d.lines.length oc) d ws) (g : WalksAt w (.slice caa (clAns d ws).length cac) (clAns d ws)) => (implUseless_any _ _ d (clAns d ws) w h.net g HF.out).mono (R' := fun e w' => RowB e w w' [] true) (fun e w' h => by have := rowB h; rw [hwb, hus] at this; exact this))
                clear hwb hwo hwa hus hcl hg hv1 hv2 hN hff hco
                go_wp2_with fail
                go_at_call 33
                refine (HTC.out w12 HIn.out HC1.out).mono ?_
                rintro e w13 ⟨⟨z, rfl, hrow⟩, hb⟩
                have HA := Lib.hid hrow
                obtain ⟨aga, agc, rfl, -, -, -⟩ := ints_open hrow
                clear hrow
                have HC1 := Lib.hid (HC1.out.below rfl hb)
                have HT := Lib.hid (HT.out.below rfl hb)
                have HIn := Lib.hid (HIn.out.below hb)
                clear hb p0 p1
                obtain ⟨p0, p1⟩ := And.intro HIn.out.n0 HIn.out.n1
                clear HTC
                go_wp2_with fail
                go_at_call 40
                refine (HUC.out w13 HIn.out HC1.out).mono ?_
                rintro e w14 ⟨⟨z, rfl, hrow⟩, hb⟩
                obtain ⟨ua, uc, rfl, -, -, -⟩ := ints_open hrow
                clear hrow
                have HT := Lib.hid (HT.out.below rfl hb)
                have HA := Lib.hid (HA.out.below rfl hb)
                have HIn := Lib.hid (HIn.out.below hb)
                clear hb p0 p1
                obtain ⟨p0, p1⟩ := And.intro HIn.out.n0 HIn.out.n1
                clear HUC
                go_wp2_with fail
                go_at_call 26
                refine (rInts_any _ _ TA w14 HA.out HT.out).mono ?_
                rintro e w15 ⟨rfl, hb⟩
                have HIn := Lib.hid (HIn.out.below hb)
                clear hb p0 p1
                obtain ⟨p0, p1⟩ := And.intro HIn.out.n0 HIn.out.n1
                clear HA HT HC1
                go_wp2_with fail
                go_ret
                exact ⟨rfl, HIn.out.bel⟩
end Go.Proofs.Ytemejcbilhcebaa.fnWalking

import Derived.Test.YtemejcbilhcebaaTakeWay
namespace Go.Proofs.Ytemejcbilhcebaa
open Go.RowKit
set_option linter.unusedVariables false
set_option linter.unusedSimpArgs false

theorem takeW_no {ws : List WlkD} {k : Nat} {σ : List Chn} {p : Chn} (h : aheadB p (cat σ (sOf p)) = false) : takeW ws k σ p = σ := by
  cases k with
  | zero => rfl
  | succ k => unfold takeW; rw [if_neg]; unfold cat at h; rw [h]; simp
theorem takeW_yes {ws : List WlkD} {k : Nat} {σ : List Chn} {p : Chn} (h : aheadB p (cat σ (sOf p)) = true) : takeW ws (k + 1) σ p = ws.foldl (stepW (takeW ws k) p) (σ.set (sOf p) p) := by
  rw [takeW, if_pos]; exact h
def foldW (ws : List WlkD) (k : Nat) (σ : List Chn) (p : Chn) (j : Nat) : List Chn := (ws.take j).foldl (stepW (takeW ws k) p) (σ.set (sOf p) p)
theorem foldW_zero (ws : List WlkD) (k : Nat) (σ : List Chn) (p : Chn) : foldW ws k σ p 0 = σ.set (sOf p) p := rfl
theorem foldW_succ {ws : List WlkD} {k : Nat} {σ : List Chn} {p : Chn} {j : Nat} (hj : j < ws.length) : foldW ws k σ p (j + 1) = stepW (takeW ws k) p (foldW ws k σ p j) ws[j] := by
  unfold foldW; rw [List.take_succ_eq_append_getElem hj, List.foldl_append]; rfl
theorem foldW_all {ws : List WlkD} {k : Nat} {σ : List Chn} {p : Chn} (h : aheadB p (cat σ (sOf p)) = true) : foldW ws k σ p ws.length = takeW ws (k + 1) σ p := by
  rw [takeW_yes h]; unfold foldW; rw [List.take_length]
theorem foldW_ok {n f : Nat} {ws : List WlkD} (hv : WksOk n ws) (hf : f < n) {k : Nat} {σ : List Chn} {p : Chn} (h : SOk ws n f σ) (hp : IsChn ws f p) (j : Nat) : SOk ws n f (foldW ws k σ p j) ∧ Imp (σ.set (sOf p) p) (foldW ws k σ p j) := by
  unfold foldW
  refine foldl_inv (fun τ => SOk ws n f τ ∧ Imp (σ.set (sOf p) p) τ) _ _ _ ⟨h.set (hp.lt hv hf) hp, Imp.refl _⟩ (fun τ x hx ⟨h1, h2⟩ => ?_)
  unfold stepW
  split
  · exact ⟨h1, h2⟩
  · rename_i t ht
    obtain ⟨g1, g2⟩ := takeW_ok hv hf k τ _ h1 (hp.ext (List.mem_of_mem_take hx) ht)
    exact ⟨g1, h2.trans g2⟩
theorem keepW6 {W w w' : World} {p0 p1 p2 p3 p4 p5 : Addr} {x0 x1 x2 x3 x4 x5 : Value} (hb : Below w.heap.size w w')
    (h : w.cell? p0 = some x0 ∧ w.cell? p1 = some x1 ∧ w.cell? p2 = some x2 ∧ w.cell? p3 = some x3 ∧ w.cell? p4 = some x4 ∧ w.cell? p5 = some x5 ∧ Below W.heap.size W w) :
    w'.cell? p0 = some x0 ∧ w'.cell? p1 = some x1 ∧ w'.cell? p2 = some x2 ∧ w'.cell? p3 = some x3 ∧ w'.cell? p4 = some x4 ∧ w'.cell? p5 = some x5 ∧ Below W.heap.size W w' := by
  obtain ⟨h0, h1, h2, h3, h4, h5, hl⟩ := h
  exact ⟨bkeep hb h0, bkeep hb h1, bkeep hb h2, bkeep hb h3, bkeep hb h4, bkeep hb h5, hl.trans (hb.mono hl.size)⟩

def FirstAt (B fb n : Nat) (w : World) (σ : List Chn) : Prop := fb < w.heap.size ∧ ∃ vs : List Value, w.ownsRow B 108 1 (.slice (some ⟨fb, 0, none⟩) n n) n vs ∧ NodesAt w fb vs σ
theorem FirstAt.later {B fb n : Nat} {w w' : World} {σ : List Chn} (h : FirstAt B fb n w σ) (hb : Below w.heap.size w w') : FirstAt B fb n w' σ := by
  obtain ⟨hl, vs, ho, hn⟩ := h
  exact ⟨Nat.lt_of_lt_of_le hl hb.size, vs, own_later ho hb, hn.out (Out.of_below hb (Nat.le_of_lt hl))⟩

set_option maxRecDepth 100000 in
set_option maxHeartbeats 4000000 in
theorem takeWay_no (n f : Nat) (ws : List WlkD) (hv : WksOk n ws) (hn8 : n ≤ 8) (hf : f < n) (lv : Value) (hls : ∃ a c, lv = .slice a ws.length c) (B fb : Nat) (hfb : B ≤ fb)
    (k : Nat) (w : World) (σ : List Chn) (p : Chn) (v : Value) (hfa : FirstAt B fb n w σ) (hnode : NodeAt w fb p v) (hask : Ask ws n f σ p) (hc : aheadB p (cat σ (sOf p)) = false) :
    Calls Try.prog 110 #[.slice (some ⟨fb, 0, none⟩) n n, lv, v] w fun e w' => e = .returned (.tuple #[]) ∧ FirstAt B fb n w' (takeW ws k σ p) ∧ Out fb (fb + 1) w w' := by
  obtain ⟨lb, ld, rfl⟩ := hls
  rw [takeW_no hc]
  obtain ⟨⟨s, m⟩, q, rfl⟩ := List.exists_cons_of_ne_nil hask.chn.ne
  have HFa := Lib.hid hfa
  obtain ⟨hfl, vs, hown, hnodes⟩ := hfa
  have hsn : s < n := hask.chn.lt hv hf
  have hσl : σ.length = n := hask.ok.len
  have hvl : vs.length = n := by rw [hnodes.1, hσl]
  have hsv : s < vs.length := by omega
  have hc2 : aheadB ((s, m) :: q) (σ[s]'(by omega)) = false := by rw [← cat_at (show s < σ.length by omega)]; exact hc
  have HAh : Hid (∀ W, Below w.heap.size w W → Calls Try.prog 118 #[v, vs[s]'hsv] W fun e w' => e = .returned (.bool false) ∧ Below W.heap.size W w') := fun W hW => by
    have := isAhead_any fb v (vs[s]'hsv) ((s, m) :: q) (σ[s]'(by omega)) W (hnode.out (Out.of_below hW (by omega))) ((hnodes.2 s (by omega) (by omega)).out (Out.of_below hW (by omega))) (by simp)
    rw [hc2] at this
    exact this
  obtain ⟨pb, v', rfl, hpl, hpf, -, c1, -, -, -⟩ := hnode
  have c4 : w.cell? ⟨fb, s, none⟩ = some (vs[s]'hsv) := by rw [hown.cellAt s (by omega)]; exact List.getElem?_eq_getElem _
  have hs1 : (s : Int) < (n : Int) := by omega
  have hs0 : (0 : Int) ≤ (s : Int) := by omega
  generalize vs[s] = vo at *
  clear hask hc hc2 hown hnodes hσl hsv
  go_enter Try.func110, Try.ntmps110
  go_wp2_with fail
  go_at_call 118
  refine (HAh.out _ (Below.refl _ _)).mono ?_
  rintro e w1 ⟨rfl, hb1⟩
  go_wp2_with fail
  refine bodyPost_ret (results_none rfl _ _ _) rfl ?_
  exact ⟨rfl, HFa.out.later hb1, Out.of_below hb1 (by omega)⟩

set_option maxRecDepth 100000 in
set_option maxHeartbeats 8000000 in
theorem takeWay_any (n f : Nat) (ws : List WlkD) (hv : WksOk n ws) (hn8 : n ≤ 8) (hf : f < n) (W0 : World) (lv : Value) (hl : WalksAt W0 lv ws) (fb : Nat) (hfb : W0.heap.size ≤ fb) :
    ∀ (k : Nat) (w : World) (σ : List Chn) (p : Chn) (v : Value), Below W0.heap.size W0 w → FirstAt W0.heap.size fb n w σ → NodeAt w fb p v → Ask ws n f σ p → p.length + k = n + 1 →
      Calls Try.prog 110 #[.slice (some ⟨fb, 0, none⟩) n n, lv, v] w fun e w' => e = .returned (.tuple #[]) ∧ FirstAt W0.heap.size fb n w' (takeW ws k σ p) ∧ Out fb (fb + 1) w w' := by
  have HL := Lib.hid hl
  obtain ⟨lb, ld, rfl⟩ := WalkS_open hl
  have hwl := hv.len
  clear hl
  intro k
  induction k with
  | zero =>
    intro w σ p v hb0 hfa hnode hask hlen
    exact takeWay_no n f ws hv hn8 hf _ ⟨lb, ld, rfl⟩ W0.heap.size fb hfb 0 w σ p v hfa hnode hask (hask.done hv hf (by omega))
  | succ k ih =>
    intro w σ p v hb0 hfa hnode hask hlen
    by_cases hc : aheadB p (cat σ (sOf p)) = false
    · exact takeWay_no n f ws hv hn8 hf _ ⟨lb, ld, rfl⟩ W0.heap.size fb hfb (k + 1) w σ p v hfa hnode hask hc
    have hc : aheadB p (cat σ (sOf p)) = true := by simpa using hc
    rw [← foldW_all hc]
    have HIH := Lib.hid ih
    have HV := Lib.hid hv
    have HB0 := Lib.hid hb0
    have HAsk := Lib.hid hask
    have HC := Lib.hid hc
    have HN := Lib.hid hnode
    have HOkj := Lib.hid (fun j => foldW_ok hv hf (k := k) hask.ok hask.chn j)
    have hpl : p.length ≤ n := by omega
    have hmb := hask.chn.bound hv
    obtain ⟨⟨s, m⟩, q, rfl⟩ := List.exists_cons_of_ne_nil hask.chn.ne
    obtain ⟨hfl, vs, hown, hnodes⟩ := hfa
    have hsn : s < n := hask.chn.lt hv hf
    have hσl : σ.length = n := hask.ok.len
    have hvl : vs.length = n := by rw [hnodes.1, hσl]
    have hsv : s < vs.length := by omega
    have hc2 : aheadB ((s, m) :: q) (σ[s]'(by omega)) = true := by rw [← cat_at (show s < σ.length by omega)]; exact hc
    have HAh : Hid (∀ W, Below w.heap.size w W → Calls Try.prog 118 #[v, vs[s]'hsv] W fun e w' => e = .returned (.bool true) ∧ Below W.heap.size W w') := fun W hW => by
      have := isAhead_any fb v (vs[s]'hsv) ((s, m) :: q) (σ[s]'(by omega)) W (hnode.out (Out.of_below hW (by omega))) ((hnodes.2 s (by omega) (by omega)).out (Out.of_below hW (by omega))) (by simp)
      rw [hc2] at this
      exact this
    have HVs := Lib.hid hown
    have HNs := Lib.hid hnodes
    have hnode2 := hnode
    obtain ⟨pb, v', rfl, hpl1, hpf, -, c1, -, -, -⟩ := hnode2
    have c4 : w.cell? ⟨fb, s, none⟩ = some (vs[s]'hsv) := by rw [hown.cellAt s (by omega)]; exact List.getElem?_eq_getElem _
    have hs1 : (s : Int) < (n : Int) := by omega
    have hs0 : (0 : Int) ≤ (s : Int) := by omega
    have hm1 : m ≤ 120 * (q.length + 1) := by simpa [mOf] using hmb
    have hq1 : q.length + 1 ≤ n := by simpa using hpl
    generalize hvo : vs[s] = vo at *
    clear hask hc hc2 hown hnodes hσl hnode hmb hv hb0 ih hpl hvo
    go_enter Try.func110, Try.ntmps110
    go_wp2_with fail
    go_at_call 118
    refine (HAh.out _ (Below.refl _ _)).mono ?_
    rintro e w1 ⟨rfl, hb1⟩
    have hown1 := own_later HVs.out hb1
    have c1 : w1.cell? ⟨pb, 1, none⟩ = some (.int .i64 (s : Int)) := bkeep hb1 c1
    have c4 : w1.cell? ⟨fb, s, none⟩ = some vo := bkeep hb1 c4
    have hf1 := fun o => hown1.frozenAt o
    have HOwn2 : Hid (World.ownsRow (w1.setCell ⟨fb, s, none⟩ (.pointer (some ⟨pb, 0, none⟩))) W0.heap.size 108 1 (.slice (some ⟨fb, 0, none⟩) n n) n (vs.set s (.pointer (some ⟨pb, 0, none⟩)))) := (hown1.stored s (.pointer (some ⟨pb, 0, none⟩))).1
    have hO1 : Out fb (fb + 1) w w1 := Out.of_below hb1 (by omega)
    have HO2 : Hid (Out fb (fb + 1) w (w1.setCell ⟨fb, s, none⟩ (.pointer (some ⟨pb, 0, none⟩)))) := hO1.setCell (p := ⟨fb, s, none⟩) (Nat.le_refl _) (by simp) _
    have HNs2 : Hid (NodesAt (w1.setCell ⟨fb, s, none⟩ (.pointer (some ⟨pb, 0, none⟩))) fb (vs.set s (.pointer (some ⟨pb, 0, none⟩))) (foldW ws k σ ((s, m) :: q) 0)) := by
      show NodesAt _ _ _ _
      rw [foldW_zero]
      exact (HNs.out.out HO2.out).set (HN.out.out HO2.out) s
    clear HVs HNs HAh hb1 hown1 hO1
    go_wp2_with fail
    go_loopw [29] (fun i wr => ∃ j : Nat, j ≤ ws.length ∧ i = .int .i64 j ∧ (∃ us : List Value, Hid (wr.ownsRow W0.heap.size 108 1 (.slice (some ⟨fb, 0, none⟩) n n) n us) ∧ Hid (NodesAt wr fb us (foldW ws k σ ((s, m) :: q) j))) ∧ Hid (Out fb (fb + 1) w wr))
      (fun i _ => ws.length - (RowKit.intOf i).toNat)
    case atStart => exact ⟨0, Nat.zero_le _, rfl, ⟨_, HOwn2, HNs2⟩, HO2⟩
    case round =>
      clear HOwn2 HNs2 HO2 c1 c4 hf1
      obtain ⟨j, hj, rfl, ⟨us, HOwn, HNs⟩, HO⟩ := hrel
      by_cases hlt : j < ws.length
      · have hBw : Below W0.heap.size W0 wr := HB0.out.trans (HO.out.below.mono hfb)
        obtain ⟨g, go, rfl, hgb, y0, y1, y2⟩ := walk_at (HL.out.below rfl hBw) j hlt
        have hxm := ws[j].m
        have HX : Hid (ws[j] ∈ ws) := List.getElem_mem hlt
        have hxe := HV.out.each ws[j] (List.getElem_mem hlt)
        have HSucc := Lib.hid (foldW_succ (k := k) (σ := σ) (p := (s, m) :: q) hlt)
        have HOE := Lib.hid (fun W => otherEnd_any ws[j] s W ⟨hxe.1, by omega⟩)
        have HTj := Lib.hid (HOkj.out j)
        have hj1 : (j : Int) < (ws.length : Int) := by omega
        have hnd := HN.out.out HO.out
        obtain ⟨pb2, v2, he, hpl2, -, -, d1, d2, d3, -⟩ := hnd
        simp only [Value.pointer.injEq, Option.some.injEq, Addr.mk.injEq] at he
        obtain ⟨rfl, -⟩ := he
        clear hxm
        generalize hgx : ws[j] = x at *
        obtain ⟨xa, xb, xm⟩ := x
        unfold wlkV at HOE
        simp only at *
        generalize hL : ((q.length + 1 : Nat) : Int) = L at *
        generalize hM : (m : Int) = M at *
        have hLw : IntKind.i64.wrap (L + 1) = L + 1 := IntWalk.i64_in _ (by omega)
        have hMw : IntKind.i64.wrap (M + xm) = M + xm := IntWalk.i64_in _ (by omega)
        have hzfb : fb < wr.heap.size := by
          obtain ⟨_, h2⟩ := HO.out.below.size, HOwn.out.lt fb rfl
          omega
        cases hnx : nextOf ⟨xa, xb, xm⟩ s with
        | none =>
          rw [hnx] at HOE
          have HSt : Hid (foldW ws k σ ((s, m) :: q) (j + 1) = foldW ws k σ ((s, m) :: q) j) := by
            show foldW _ _ _ _ _ = _
            rw [HSucc.out]; unfold stepW; rw [show sOf ((s, m) :: q) = s from rfl, hnx]
          simp only [Option.getD_none, Option.isSome_none] at HOE
          clear HSucc hnx
          go_wp2_with fail
          obtain ⟨wa, hwa⟩ : ∃ wa : World, wa = wr.alloc (.cells #[.int .i64 xa, .int .i64 xb, .int .i64 xm] 67) := ⟨_, rfl⟩
          have b0 : wa.cell? ⟨wr.heap.size, 0, none⟩ = some (.int .i64 xa) := by rw [hwa]; go_simp
          have b1 : wa.cell? ⟨wr.heap.size, 1, none⟩ = some (.int .i64 xb) := by rw [hwa]; go_simp
          have b2 : wa.cell? ⟨wr.heap.size, 2, none⟩ = some (.int .i64 xm) := by rw [hwa]; go_simp
          have d1 : wa.cell? ⟨pb, 1, none⟩ = some (.int .i64 (s : Int)) := by rw [hwa]; exact acell d1 _
          have d2 : wa.cell? ⟨pb, 2, none⟩ = some (.int .i64 L) := by rw [hwa]; exact acell d2 _
          have d3 : wa.cell? ⟨pb, 3, none⟩ = some (.int .i64 M) := by rw [hwa]; exact acell d3 _
          have hbx : Below wr.heap.size wr wa := by rw [hwa]; exact (Below.refl _ _).alloc (Nat.le_refl _) _
          have hza : wr.heap.size < wa.heap.size := by rw [hwa]; simp
          rw [← hwa]
          clear hwa y0 y1 y2
          go_region_held3 (fun w' => w'.cell? ⟨wr.heap.size, 0, none⟩ = some (.int .i64 xa) ∧ w'.cell? ⟨wr.heap.size, 1, none⟩ = some (.int .i64 xb) ∧ w'.cell? ⟨wr.heap.size, 2, none⟩ = some (.int .i64 xm) ∧ w'.cell? ⟨pb, 1, none⟩ = some (.int .i64 (s : Int)) ∧ w'.cell? ⟨pb, 2, none⟩ = some (.int .i64 L) ∧ w'.cell? ⟨pb, 3, none⟩ = some (.int .i64 M) ∧ Below wa.heap.size wa w')
            (first | (exact ⟨b0, b1, b2, d1, d2, d3, (Below.refl _ _).drew⟩) | (exact keepW6 hb (by assumption)))
            ((go_at_call 119; refine (HOE.out _).mono ?_; rintro e w' ⟨rfl, hb⟩))
          obtain ⟨b0, b1, b2, d1, d2, d3, rb⟩ := (by assumption : _ ∧ _)
          have HBx : Hid (Below wr.heap.size wr wa) := hbx
          clear b0 b1 b2 d1 d2 d3 hbx
          have HB9 := Lib.hid rb
          clear rb
          go_wp2_with fail
          go_roundw
          case rel =>
            have hbb := HBx.out.trans (HB9.out.mono HBx.out.size)
            exact ⟨j + 1, by omega, by go_num, ⟨us, own_later HOwn.out hbb, by show NodesAt _ _ _ _; rw [HSt.out]; exact HNs.out.out (Out.of_below hbb (by omega))⟩, HO.out.trans (Out.of_below hbb (by omega))⟩
          case measure => simp [RowKit.intOf]; omega
        | some t =>
          rw [hnx] at HOE
          have HSt : Hid (foldW ws k σ ((s, m) :: q) (j + 1) = takeW ws k (foldW ws k σ ((s, m) :: q) j) ((t, m + xm.toNat) :: (s, m) :: q)) := by
            show foldW _ _ _ _ _ = _
            rw [HSucc.out]; unfold stepW; rw [show sOf ((s, m) :: q) = s from rfl, hnx]; rfl
          have HAskN : Hid (Ask ws n f (foldW ws k σ ((s, m) :: q) j) ((t, m + xm.toNat) :: (s, m) :: q)) := HAsk.out.next HV.out hf HC.out HTj.out.1 HTj.out.2 HX.out hnx
          simp only [Option.getD_some, Option.isSome_some] at HOE
          clear HSucc hnx
          go_wp2_with fail
          obtain ⟨wa, hwa⟩ : ∃ wa : World, wa = wr.alloc (.cells #[.int .i64 xa, .int .i64 xb, .int .i64 xm] 67) := ⟨_, rfl⟩
          have b0 : wa.cell? ⟨wr.heap.size, 0, none⟩ = some (.int .i64 xa) := by rw [hwa]; go_simp
          have b1 : wa.cell? ⟨wr.heap.size, 1, none⟩ = some (.int .i64 xb) := by rw [hwa]; go_simp
          have b2 : wa.cell? ⟨wr.heap.size, 2, none⟩ = some (.int .i64 xm) := by rw [hwa]; go_simp
          have d1 : wa.cell? ⟨pb, 1, none⟩ = some (.int .i64 (s : Int)) := by rw [hwa]; exact acell d1 _
          have d2 : wa.cell? ⟨pb, 2, none⟩ = some (.int .i64 L) := by rw [hwa]; exact acell d2 _
          have d3 : wa.cell? ⟨pb, 3, none⟩ = some (.int .i64 M) := by rw [hwa]; exact acell d3 _
          have hbx : Below wr.heap.size wr wa := by rw [hwa]; exact (Below.refl _ _).alloc (Nat.le_refl _) _
          have hza : wr.heap.size < wa.heap.size := by rw [hwa]; simp
          rw [← hwa]
          clear hwa y0 y1 y2
          go_region_held3 (fun w' => w'.cell? ⟨wr.heap.size, 0, none⟩ = some (.int .i64 xa) ∧ w'.cell? ⟨wr.heap.size, 1, none⟩ = some (.int .i64 xb) ∧ w'.cell? ⟨wr.heap.size, 2, none⟩ = some (.int .i64 xm) ∧ w'.cell? ⟨pb, 1, none⟩ = some (.int .i64 (s : Int)) ∧ w'.cell? ⟨pb, 2, none⟩ = some (.int .i64 L) ∧ w'.cell? ⟨pb, 3, none⟩ = some (.int .i64 M) ∧ Below wa.heap.size wa w')
            (first | (exact ⟨b0, b1, b2, d1, d2, d3, (Below.refl _ _).drew⟩) | (exact keepW6 hb (by assumption)))
            ((go_at_call 119; refine (HOE.out _).mono ?_; rintro e w' ⟨rfl, hb⟩))
          obtain ⟨b0, b1, b2, d1, d2, d3, rb⟩ := (by assumption : _ ∧ _)
          have HBx : Hid (Below wr.heap.size wr wa) := hbx
          have hzz : wr.heap.size < wa.heap.size := hza
          clear hbx hza b0 b1 d1
          have HBB : Hid (Below wr.heap.size wr w') := HBx.out.trans (rb.mono HBx.out.size)
          have hzb : wr.heap.size < w'.heap.size := by have := rb.size; omega
          clear rb HBx
          have HFb : Hid (FirstAt W0.heap.size fb n w' (foldW ws k σ ((s, m) :: q) j)) := FirstAt.later ⟨hzfb, us, HOwn.out, HNs.out⟩ HBB.out
          have HOb : Hid (Out fb (fb + 1) w w') := HO.out.trans (Out.of_below HBB.out (by omega))
          have HNb : Hid (NodeAt w' fb ((s, m) :: q) (.pointer (some ⟨pb, 0, none⟩))) := HN.out.out HOb.out
          have HB0b : Hid (Below W0.heap.size W0 w') := hBw.trans (HBB.out.mono (by have := hBw.size; omega))
          have hL2 : (L + 1 : Int) = ((((s, m) :: q : Chn).length + 1 : Nat) : Int) := by simp only [List.length_cons]; omega
          have hM2 : (M + xm : Int) = ((m + xm.toNat : Nat) : Int) := by push_cast; omega
          have hlen2 : ((t, m + xm.toNat) :: (s, m) :: q : Chn).length + k = n + 1 := by simp only [List.length_cons] at hlen ⊢; omega
          have HL2 := Lib.hid hL2
          have HM2 := Lib.hid hM2
          have HLen2 := Lib.hid hlen2
          clear hL2 hM2 hlen2 HOwn HNs hL hM hgx hBw
          go_wp2_with fail
          refine wp_region_held_drew (S := (fun w' => w'.cell? ⟨pb, 2, none⟩ = some (.int .i64 L) ∧ w'.cell? ⟨pb, 3, none⟩ = some (.int .i64 M) ∧ w'.cell? ⟨wr.heap.size, 2, none⟩ = some (.int .i64 xm))) (by kernel_rfl) ?_ (fun hHeld => ?_)
          · exact ⟨d2, d3, b2⟩
          refine wpAnyH_take (i := 0) (v := ?_) (by simp only [List.getElem?_toArray, List.getElem?_cons_zero]; rfl) (by kernel_rfl) (by kernel_rfl) (by kernel_rfl) (by exact fun _ _ _ h => h) (Or.inl ⟨by rfl, ?_⟩) (by assumption) ?_
          rotate_left
          · intro w' hSw; obtain ⟨e1, e2, e3⟩ := hSw
            go_simp; try with_reducible rfl
          try simp only [Act.put, List.setIfInBounds_toArray, List.set_cons_zero, List.set_cons_succ]
          refine wpAnyH_take (i := 1) (v := ?_) (by simp only [List.getElem?_toArray, List.getElem?_cons_succ, List.getElem?_cons_zero]; rfl) (by kernel_rfl) (by kernel_rfl) (by kernel_rfl) (by exact fun _ _ _ h => h) (Or.inl ⟨by rfl, ?_⟩) (by assumption) ?_
          rotate_left
          · intro w' hSw; obtain ⟨e1, e2, e3⟩ := hSw
            go_simp; try with_reducible rfl
          try simp only [Act.put, List.setIfInBounds_toArray, List.set_cons_zero, List.set_cons_succ]
          refine wpAnyH_take (i := 2) (v := ?_) (by simp only [List.getElem?_toArray, List.getElem?_cons_succ, List.getElem?_cons_zero]; rfl) (by kernel_rfl) (by kernel_rfl) (by kernel_rfl) (by exact fun _ _ _ h => h) (Or.inl ⟨by rfl, ?_⟩) (by assumption) ?_
          rotate_left
          · intro w' hSw; obtain ⟨e1, e2, e3⟩ := hSw
            go_simp; try with_reducible rfl
          try simp only [Act.put, List.setIfInBounds_toArray, List.set_cons_zero, List.set_cons_succ]
          refine wpAnyH_take (i := 3) (v := ?_) (by simp only [List.getElem?_toArray, List.getElem?_cons_succ, List.getElem?_cons_zero]; rfl) (by kernel_rfl) (by kernel_rfl) (by kernel_rfl) (by exact fun _ _ _ h => h) (Or.inl ⟨by rfl, ?_⟩) (by assumption) ?_
          rotate_left
          · intro w' hSw; obtain ⟨e1, e2, e3⟩ := hSw
            go_simp; try with_reducible rfl
          try simp only [Act.put, List.setIfInBounds_toArray, List.set_cons_zero, List.set_cons_succ]
          refine wpAnyH_take (i := 4) (v := ?_) (by simp only [List.getElem?_toArray, List.getElem?_cons_succ, List.getElem?_cons_zero]; rfl) (by kernel_rfl) (by kernel_rfl) (by kernel_rfl) (by exact fun _ _ _ h => h) (Or.inl ⟨by rfl, ?_⟩) (by assumption) ?_
          rotate_left
          · intro w' hSw; obtain ⟨e1, e2, e3⟩ := hSw
            go_simp; try with_reducible rfl
          try simp only [Act.put, List.setIfInBounds_toArray, List.set_cons_zero, List.set_cons_succ]
          refine wpAnyH_take (i := 5) (v := ?_) (by simp only [List.getElem?_toArray, List.getElem?_cons_succ, List.getElem?_cons_zero]; rfl) (by kernel_rfl) (by kernel_rfl) (by kernel_rfl) (by exact fun _ _ _ h => h) (Or.inl ⟨by rfl, ?_⟩) (by assumption) ?_
          rotate_left
          · intro w' hSw; obtain ⟨e1, e2, e3⟩ := hSw
            go_simp; try with_reducible rfl
          try simp only [Act.put, List.setIfInBounds_toArray, List.set_cons_zero, List.set_cons_succ]
          refine wpAnyH_take (i := 6) (v := ?_) (by simp only [List.getElem?_toArray, List.getElem?_cons_succ, List.getElem?_cons_zero]; rfl) (by kernel_rfl) (by kernel_rfl) (by kernel_rfl) (by exact fun _ _ _ h => h) (Or.inl ⟨by rfl, ?_⟩) (by assumption) ?_
          rotate_left
          · intro w' hSw; obtain ⟨e1, e2, e3⟩ := hSw
            go_simp; try with_reducible rfl
          try simp only [Act.put, List.setIfInBounds_toArray, List.set_cons_zero, List.set_cons_succ]
          refine wpAnyH_take (i := 7) (v := ?_) (by simp only [List.getElem?_toArray, List.getElem?_cons_succ, List.getElem?_cons_zero]; rfl) (by kernel_rfl) (by kernel_rfl) (by kernel_rfl) (by exact fun _ _ _ h => h) (Or.inl ⟨by rfl, ?_⟩) (by assumption) ?_
          rotate_left
          · intro w' hSw; obtain ⟨e1, e2, e3⟩ := hSw
            go_simp; try with_reducible rfl
          try simp only [Act.put, List.setIfInBounds_toArray, List.set_cons_zero, List.set_cons_succ]
          refine wpAnyH_take (i := 8) (v := ?_) (by simp only [List.getElem?_toArray, List.getElem?_cons_succ, List.getElem?_cons_zero]; rfl) (by kernel_rfl) (by kernel_rfl) (by kernel_rfl) (by exact fun _ _ _ h => h) (Or.inl ⟨by rfl, ?_⟩) (by assumption) ?_
          rotate_left
          · intro w' hSw; obtain ⟨e1, e2, e3⟩ := hSw
            go_simp; try with_reducible rfl
          try simp only [Act.put, List.setIfInBounds_toArray, List.set_cons_zero, List.set_cons_succ]
          refine wpAnyH_take (i := 9) (v := ?_) (by simp only [List.getElem?_toArray, List.getElem?_cons_succ, List.getElem?_cons_zero]; rfl) (by kernel_rfl) (by kernel_rfl) (by kernel_rfl) (by exact fun _ _ _ h => h) (Or.inl ⟨by rfl, ?_⟩) (by assumption) ?_
          rotate_left
          · intro w' hSw; obtain ⟨e1, e2, e3⟩ := hSw
            go_simp; try with_reducible rfl
          try simp only [Act.put, List.setIfInBounds_toArray, List.set_cons_zero, List.set_cons_succ]
          refine wpAnyH_take (i := 10) (v := ?_) (by simp only [List.getElem?_toArray, List.getElem?_cons_succ, List.getElem?_cons_zero]; rfl) (by kernel_rfl) (by kernel_rfl) (by kernel_rfl) (by exact fun _ _ _ h => h) (Or.inl ⟨by rfl, ?_⟩) (by assumption) ?_
          rotate_left
          · intro w' hSw; obtain ⟨e1, e2, e3⟩ := hSw
            go_simp; try with_reducible rfl
          try simp only [Act.put, List.setIfInBounds_toArray, List.set_cons_zero, List.set_cons_succ]
          refine wpAnyH_take (i := 11) (v := ?_) (by simp only [List.getElem?_toArray, List.getElem?_cons_succ, List.getElem?_cons_zero]; rfl) (by kernel_rfl) (by kernel_rfl) (by kernel_rfl) (by exact fun _ _ _ h => h) (Or.inl ⟨by rfl, ?_⟩) (by assumption) ?_
          rotate_left
          · intro w' hSw; obtain ⟨e1, e2, e3⟩ := hSw
            go_simp; try with_reducible rfl
          try simp only [Act.put, List.setIfInBounds_toArray, List.set_cons_zero, List.set_cons_succ]
          refine wpAnyH_take (i := 12) (v := ?_) (by simp only [List.getElem?_toArray, List.getElem?_cons_succ, List.getElem?_cons_zero]; rfl) (by kernel_rfl) (by kernel_rfl) (by kernel_rfl) (by exact fun _ _ _ h => h) (Or.inl ⟨by rfl, ?_⟩) (by assumption) ?_
          rotate_left
          · intro w' hSw; obtain ⟨e1, e2, e3⟩ := hSw
            go_simp; try with_reducible rfl
          try simp only [Act.put, List.setIfInBounds_toArray, List.set_cons_zero, List.set_cons_succ]
          refine wpAnyH_take (i := 13) (v := ?_) (by simp only [List.getElem?_toArray, List.getElem?_cons_succ, List.getElem?_cons_zero]; rfl) (by kernel_rfl) (by kernel_rfl) (by kernel_rfl) (by exact fun _ _ _ h => h) (Or.inl ⟨by rfl, ?_⟩) (by assumption) ?_
          rotate_left
          · intro w' hSw; obtain ⟨e1, e2, e3⟩ := hSw
            go_simp; try with_reducible rfl
          try simp only [Act.put, List.setIfInBounds_toArray, List.set_cons_zero, List.set_cons_succ]
          refine wpAnyH_take (i := 14) (v := ?_) (by simp only [List.getElem?_toArray, List.getElem?_cons_succ, List.getElem?_cons_zero]; rfl) (by kernel_rfl) (by kernel_rfl) (by kernel_rfl) (by exact fun _ _ _ h => h) (Or.inl ⟨by rfl, ?_⟩) (by assumption) ?_
          rotate_left
          · intro w' hSw; obtain ⟨e1, e2, e3⟩ := hSw
            go_simp; try with_reducible rfl
          try simp only [Act.put, List.setIfInBounds_toArray, List.set_cons_zero, List.set_cons_succ]
          refine wpAnyH_take (i := 15) (v := ?_) (by simp only [List.getElem?_toArray, List.getElem?_cons_succ, List.getElem?_cons_zero]; rfl) (by kernel_rfl) (by kernel_rfl) (by kernel_rfl) (by exact fun _ _ _ h => h) (Or.inl ⟨by rfl, ?_⟩) (by assumption) ?_
          rotate_left
          · intro w' hSw; obtain ⟨e1, e2, e3⟩ := hSw
            go_simp; try with_reducible rfl
          try simp only [Act.put, List.setIfInBounds_toArray, List.set_cons_zero, List.set_cons_succ]
          refine wpAnyH_take (i := 16) (v := ?_) (by simp only [List.getElem?_toArray, List.getElem?_cons_succ, List.getElem?_cons_zero]; rfl) (by kernel_rfl) (by kernel_rfl) (by kernel_rfl) (by exact fun _ _ _ h => h) (Or.inl ⟨by rfl, ?_⟩) (by assumption) ?_
          rotate_left
          · intro w' hSw; obtain ⟨e1, e2, e3⟩ := hSw
            go_simp; try with_reducible rfl
          try simp only [Act.put, List.setIfInBounds_toArray, List.set_cons_zero, List.set_cons_succ]
          refine wpAnyH_ready (rs := [17]) (by kernel_rfl) (by simp) ?_
          refine AllReadyH.cons (by simp only [List.getElem?_toArray, List.getElem?_cons_succ, List.getElem?_cons_zero]; rfl) (fun K hK => ?_) AllReadyH.nil
          go_simp
          refine hK.out _ _ ?_ (fun hH17 => ?_)
          · exact ⟨acell d2 _, acell d3 _, acell b2 _⟩
          clear hK K
          try simp only [Act.put, List.setIfInBounds_toArray, List.set_cons_zero, List.set_cons_succ]
          refine wpAnyH_ready (rs := [18]) (by kernel_rfl) (by simp) ?_
          refine AllReadyH.cons (by simp only [List.getElem?_toArray, List.getElem?_cons_succ, List.getElem?_cons_zero]; rfl) (fun K hK => ?_) AllReadyH.nil
          go_simp
          obtain ⟨wx, hwx⟩ : ∃ wx : World, wx = (w'.alloc (.cells #[.pointer (some ⟨pb, 0, none⟩), .int .i64 (t : Int), .int .i64 (L + 1), .int .i64 (M + xm)] 132)).drew := ⟨_, rfl⟩
          have key : Below w'.heap.size w' wx := by rw [hwx]; exact ((Below.refl _ _).alloc (Nat.le_refl _) _).drew
          have n0 : wx.cell? ⟨w'.heap.size, 0, none⟩ = some (.pointer (some ⟨pb, 0, none⟩)) := by rw [hwx]; go_simp
          have n1 : wx.cell? ⟨w'.heap.size, 1, none⟩ = some (.int .i64 (t : Int)) := by rw [hwx]; go_simp
          have n2 : wx.cell? ⟨w'.heap.size, 2, none⟩ = some (.int .i64 (L + 1)) := by rw [hwx]; go_simp
          have n3 : wx.cell? ⟨w'.heap.size, 3, none⟩ = some (.int .i64 (M + xm)) := by rw [hwx]; go_simp
          have hzx : w'.heap.size < wx.heap.size := by rw [hwx]; simp
          rw [HL2.out] at n2
          rw [HM2.out] at n3
          have HNx : Hid (NodeAt wx fb ((t, m + xm.toNat) :: (s, m) :: q) (.pointer (some ⟨w'.heap.size, 0, none⟩))) := ⟨w'.heap.size, _, rfl, hzx, by omega, n0, n1, n2, n3, HNb.out.out (Out.of_below key (by omega))⟩
          have HIx := Lib.hid (HIH.out wx _ _ _ (HB0b.out.trans (key.mono HB0b.out.size)) (HFb.out.later key) HNx.out HAskN.out HLen2.out)
          have HOx : Hid (Out fb (fb + 1) w wx) := HOb.out.trans (Out.of_below key (by omega))
          rw [← hwx] at hH17 ⊢
          clear hwx n0 n1 n2 n3 key HNx
          go_at_call 110
          refine HIx.out.mono ?_
          rintro e w2 ⟨rfl, hf2, ho2⟩
          have HF2 := Lib.hid hf2
          have HO3 := Lib.hid (HOx.out.trans ho2)
          have hS18 : w2.cell? ⟨pb, 2, none⟩ = some (.int .i64 L) ∧ w2.cell? ⟨pb, 3, none⟩ = some (.int .i64 M) ∧ w2.cell? ⟨wr.heap.size, 2, none⟩ = some (.int .i64 xm) := ⟨ho2.cell (by dsimp only; omega) hH17.1, ho2.cell (by dsimp only; omega) hH17.2.1, ho2.cell (by dsimp only; omega) hH17.2.2⟩
          clear hf2 ho2
          go_wp2_with fail
          refine hK.out _ _ hS18 (fun hH18 => ?_)
          clear hK K
          try simp only [Act.put, List.setIfInBounds_toArray, List.set_cons_zero, List.set_cons_succ]
          refine wpAnyH_done (by kernel_rfl) ?_ _
          go_wp2_with fail
          go_roundw
          case rel =>
            obtain ⟨hfl2, us2, ho3, hn3⟩ := HF2.out
            exact ⟨j + 1, by omega, by go_num, ⟨us2, ho3, by show NodesAt _ _ _ _; rw [HSt.out]; exact hn3⟩, HO3.out⟩
          case measure => simp [RowKit.intOf]; omega
      · obtain rfl : j = ws.length := by omega
        go_wp2_with fail
        refine bodyPost_end (results_none rfl _ _ _) rfl ?_
        refine ⟨rfl, ⟨?_, us, HOwn.out, HNs.out⟩, HO.out⟩
        exact (HOwn.out.lt fb rfl).2
end Go.Proofs.Ytemejcbilhcebaa

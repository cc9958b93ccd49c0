import Derived.Test.YtehpeifaknbcnaaMk45
import Derived.Test.YtehpeifaknbcnaaMk46
import Derived.Test.YtehpeifaknbcnaaMk34
import Derived.Maps.AppendAt
namespace Go.Proofs.Ytehpeifaknbcnaa
open Go.RowKit
set_option linter.unusedVariables false
set_option linter.unusedSimpArgs false

theorem rowDropB {w : World} {b off : Nat} {xs : List Int} {c k : Nat} (h : RowAt w (.slice (some ⟨b, off, none⟩) xs.length c) (ints xs)) (hk : k ≤ xs.length) : RowAt w (.slice (some ⟨b, off + k, none⟩) (xs.length - k) (c - k)) (ints (xs.drop k)) := by
  obtain ⟨a', c', hv, hc, hm, hcell⟩ := h
  simp at hv
  obtain ⟨rfl, _, rfl⟩ := hv
  rw [ints_len] at hc
  refine ⟨_, _, by rw [ints_len, List.length_drop], by rw [ints_len, List.length_drop]; omega, by omega, fun j u hu => ?_⟩
  have e : ints (xs.drop k) = (ints xs).drop k := by simp [ints, List.map_drop]
  rw [e, List.getElem?_drop] at hu
  obtain ⟨b', o', he, h1, h2⟩ := hcell (k + j) u hu
  simp at he
  obtain ⟨rfl, rfl⟩ := he
  exact ⟨_, _, rfl, h1, by rw [show off + k + j = off + (k + j) by omega]; exact h2⟩
theorem rowTakeB {w : World} {a : Option Addr} {xs : List Int} {c k : Nat} (h : RowAt w (.slice a xs.length c) (ints xs)) (hk : k ≤ xs.length) : RowAt w (.slice a k c) (ints (xs.take k)) := by
  obtain ⟨a', c', hv, hc, hm, hcell⟩ := h
  simp at hv
  obtain ⟨rfl, _, rfl⟩ := hv
  rw [ints_len] at hc
  refine ⟨a, c, by rw [ints_len]; simp; omega, by rw [ints_len]; simp; omega, hm, fun j u hu => ?_⟩
  have e : ints (xs.take k) = (ints xs).take k := by simp [ints, List.map_take]
  rw [e, List.getElem?_take] at hu
  split at hu
  · exact hcell j u hu
  · cases hu

theorem grp_rows {w : World} {a : Option Addr} {n c : Nat} {bs : List (List Int)} (h : GrpsAt w (.slice a n c) bs) (hp : 0 < bs.length) :
    ∃ vb vo, a = some ⟨vb, vo, none⟩ ∧ ∀ j (hj : j < bs.length), 0 < bs[j].length → ∃ pb po pc, bs[j].length ≤ pc ∧ pc ≤ 9223372036854775807 ∧ ∀ W : World, Below w.heap.size w W → W.cell? ⟨vb, vo + j, none⟩ = some (.slice (some ⟨pb, po, none⟩) bs[j].length pc) ∧ RowAt W (.slice (some ⟨pb, po, none⟩) bs[j].length pc) (ints bs[j]) := by
  obtain ⟨vs, g1, g2, g3⟩ := h
  obtain ⟨vb, vo, rfl, _, _⟩ := rowAt_cell g1 0 (by omega)
  refine ⟨vb, vo, rfl, fun j hj h0 => ?_⟩
  have hcell : ∀ W : World, Below w.heap.size w W → W.cell? ⟨vb, vo + j, none⟩ = some (vs[j]'(by omega)) := fun W hW => by
    obtain ⟨vb', vo', he, _, y'⟩ := rowAt_cell (RowAt.below g1 rfl hW) j (by omega)
    simp at he
    obtain ⟨rfl, rfl⟩ := he
    exact y'
  have hrow := g3 j hj (by omega)
  obtain ⟨ra, rc, hv, hc, hm, C⟩ := ints_open hrow
  rw [hv] at hcell
  obtain ⟨pb, po, rfl, _, _⟩ := C.out 0 h0
  rw [hv] at hrow
  exact ⟨pb, po, rc, hc, hm, fun W hW => ⟨hcell W hW, hrow.below rfl hW⟩⟩

def o2F (c k off : Nat) : Nat := if c = k then off else off + k
theorem o2_eq (b c k off : Nat) : (if c = k then (some ⟨b, off, none⟩ : Option Addr) else some ⟨b, off + k, none⟩) = some ⟨b, o2F c k off, none⟩ := by unfold o2F; split <;> rfl
theorem rowDropO {w : World} {b off : Nat} {xs : List Int} {c k : Nat} (h : RowAt w (.slice (some ⟨b, off, none⟩) xs.length c) (ints xs)) (hk : k ≤ xs.length) : RowAt w (.slice (some ⟨b, o2F c k off, none⟩) (xs.length - k) (c - k)) (ints (xs.drop k)) := by
  have hc : xs.length ≤ c := by
    obtain ⟨a', c', hv, hc, -⟩ := h
    rw [ints_len] at hc
    simp at hv
    omega
  by_cases e : c = k
  · have e1 : xs.length - k = 0 := by omega
    have e2 : c - k = 0 := by omega
    have e3 : xs.drop k = [] := List.drop_eq_nil_iff.2 (by omega)
    rw [e1, e2, e3]
    exact ⟨_, _, rfl, Nat.le_refl _, by decide, fun j u hu => by simp [ints] at hu⟩
  · have h2 := rowDropB h hk
    unfold o2F
    rw [if_neg e]
    exact h2
noncomputable def swG (t : TTD) (f : FleetD) (bs : List (List Int)) (a b : Int) : Bool := boOk t f bs a && boOk t f bs b && !(boA t f bs a == boA t f bs b)
noncomputable def swL (t : TTD) (f : FleetD) (bs : List (List Int)) (a b : Int) : List (List Int) := swF bs (boA t f bs a).toNat (boB t f bs a).toNat (boA t f bs b).toNat (boB t f bs b).toNat
noncomputable def swOk (t : TTD) (f : FleetD) (bs : List (List Int)) (a b : Int) : Bool := swG t f bs a b && blksB t f (swL t f bs a b)
noncomputable def swA (t : TTD) (f : FleetD) (bs : List (List Int)) (a b : Int) : List (List Int) := if swOk t f bs a b = true then swL t f bs a b else []
theorem swG_main {t : TTD} {f : FleetD} {bs : List (List Int)} {a b : Int} (h : swG t f bs a b = true) : (AskedGood t f ∧ BlksGood t f bs) ∧ ∃ i p k q : Nat, (boA t f bs a = i ∧ boB t f bs a = p ∧ boA t f bs b = k ∧ boB t f bs b = q) ∧ (plF a 0 bs = ((i : Int), (p : Int)) ∧ plF b 0 bs = ((k : Int), (q : Int))) ∧ k ≠ i ∧ (∃ hi : i < bs.length, p < bs[i].length) ∧ ∃ hk : k < bs.length, q < bs[k].length := by
  unfold swG at h
  simp only [Bool.and_eq_true, Bool.not_eq_true'] at h
  obtain ⟨⟨h1, h2⟩, h3⟩ := h
  have g1 := h1
  have g2 := h2
  unfold boOk at g1 g2
  simp only [Bool.and_eq_true, decide_eq_true_eq] at g1 g2
  obtain ⟨i, p, e1, hi⟩ := plF_at g1.2
  obtain ⟨k, q, e2, hk⟩ := plF_at g2.2
  have a1 : boA t f bs a = i := by unfold boA; rw [if_pos h1, e1]
  have a2 : boB t f bs a = p := by unfold boB; rw [if_pos h1, e1]
  have a3 : boA t f bs b = k := by unfold boA; rw [if_pos h2, e2]
  have a4 : boB t f bs b = q := by unfold boB; rw [if_pos h2, e2]
  refine ⟨⟨askedB_iff.1 g1.1.1, blksB_iff.1 g1.1.2⟩, i, p, k, q, ⟨a1, a2, a3, a4⟩, ⟨e1, e2⟩, fun e => ?_, hi, hk⟩
  rw [a1, a3, e] at h3
  simp at h3
def GrAns (B : Nat) (r : List (List Int)) (b : Bool) (e : Ending) (w' : World) : Prop := ∃ z, e = .returned (.tuple #[z, .bool b]) ∧ GrpsIn B w'.heap.size w' z r

set_option maxRecDepth 100000 in
set_option maxHeartbeats 8000000 in
theorem implSwap_any (tv fv bv : Value) (t : TTD) (f : FleetD) (bs : List (List Int)) (a b : Int) (w : World) (hr : TTAt w tv t) (hf : TTFits t) (hg : FleetAt w fv f) (hs : GrpsSmall f.dead) (hb : GrpsAt w bv bs) (hbs : GrpsSmall bs) :
    Calls Try.prog 44 #[tv, fv, bv, .int .i64 a, .int .i64 b] w fun e w' => GrAns w.heap.size (swA t f bs a b) (swOk t f bs a b) e w' ∧ Below w.heap.size w w' := by
  have HBo := Lib.hid (fun W (h : Below w.heap.size w W) id => implBlockOf_any tv fv bv t f bs id W (hr.below rfl h) hf (hg.below rfl h) hs (hb.below rfl h) hbs)
  have HVo := Lib.hid (fun W (h : Below w.heap.size w W) z xss (h1 : GrpsAt W z xss) (h2 : GrpsSmall xss) => implBlocks_any tv fv z t f xss W (hr.below rfl h) hf (hg.below rfl h) hs h1 h2)
  have HGr := Lib.hid hb
  have hsz := hbs.1
  obtain ⟨c0, d0, c1, d1, c2, d2, rfl, -, -⟩ := tt_open hr
  obtain ⟨fa, fc, rfl, -⟩ := fleet_open hg
  obtain ⟨ba, bc, rfl⟩ := IntSS_open hb
  obtain ⟨j0, hj0, hy0, hy1, hy2⟩ := info_parts infoInts
  clear hr hf hg hs hb hbs
  have HMain := Lib.hid (fun (h : swG t f bs a b = true) => swG_main h)
  have HGd : Hid (swG t f bs a b = (boOk t f bs a && boOk t f bs b && !(boA t f bs a == boA t f bs b))) := rfl
  cases hG : swG t f bs a b
  · have HOk : Hid (swOk t f bs a b = false) := by show _ = _; unfold swOk; rw [hG]; rfl
    have HAn : Hid (swA t f bs a b = []) := by show _ = _; unfold swA; rw [HOk.out]; rfl
    rw [HOk.out, HAn.out]
    have hD := HGd.out
    rw [hG] at hD
    have HBa := Lib.hid (fun W (h : Below w.heap.size w W) => HBo.out W h a)
    have HBb := Lib.hid (fun W (h : Below w.heap.size w W) => HBo.out W h b)
    generalize boA t f bs a = x1 at *
    generalize boB t f bs a = x2 at *
    generalize boOk t f bs a = x3 at *
    generalize boA t f bs b = y1 at *
    generalize boB t f bs b = y2 at *
    generalize boOk t f bs b = y3 at *
    have hways : x3 = false ∨ (x3 = true ∧ y3 = false) ∨ (x3 = true ∧ y3 = true ∧ x1 = y1) := by
      cases x3
      · exact .inl rfl
      · cases y3
        · exact .inr (.inl ⟨rfl, rfl⟩)
        · refine .inr (.inr ⟨rfl, rfl, ?_⟩)
          by_cases e : x1 = y1
          · exact e
          · rw [show (x1 == y1) = false from beq_eq_false_iff_ne.2 e] at hD; cases hD
    clear hD HMain HGd HOk HAn hG
    rcases hways with rfl | ⟨rfl, rfl⟩ | ⟨rfl, rfl, rfl⟩
    all_goals
      go_enter Try.func44, Try.ntmps44
      go_wp2_with fail
      go_at_call 42
      refine (HBa.out _ (((Below.refl _ _).alloc (Nat.le_refl _) _).alloc (by simp) _)).mono ?_
      rintro e w1 ⟨rfl, hb1⟩
      have HB1 : Hid (Below w.heap.size w w1) := (((Below.refl _ _).alloc (Nat.le_refl _) _).alloc (by simp) _).trans (hb1.mono (by simp; omega))
      have p0 : w1.cell? ⟨w.heap.size, 0, none⟩ = some (.slice c0 t.net.stops.length d0) := bkeep hb1 (by go_simp)
      have p1 : w1.cell? ⟨w.heap.size, 1, none⟩ = some (.slice c1 t.net.lines.length d1) := bkeep hb1 (by go_simp)
      have p2 : w1.cell? ⟨w.heap.size, 2, none⟩ = some (.slice c2 t.trips.length d2) := bkeep hb1 (by go_simp)
      have q0 : w1.cell? ⟨w.heap.size + 1, 0, none⟩ = some (.slice fa f.dead.length fc) := bkeep hb1 (by go_simp)
      have q1 : w1.cell? ⟨w.heap.size + 1, 1, none⟩ = some (.int .i64 f.turn) := bkeep hb1 (by go_simp)
      clear hb1
      go_wp2_with fail
      go_at_call 42
      refine (HBb.out _ HB1.out).mono ?_
      rintro e w2 ⟨rfl, hb2⟩
      have HB2 : Hid (Below w.heap.size w w2) := HB1.out.trans (hb2.mono HB1.out.size)
      clear hb2 HB1
      go_wp2_with fail
      go_ret2
      exact ⟨⟨_, rfl, _, GrpsOwn.noneB (lit_grpsB (B := w.heap.size) w2 HB2.out.size)⟩, HB2.out.alloc HB2.out.size _⟩
  · obtain ⟨⟨hA, hB⟩, i, p, k, q, ⟨e1, e2, e3, e4⟩, -, hne, ⟨hil, hpl⟩, hkl, hql⟩ := HMain.out hG
    have hD := HGd.out
    rw [hG] at hD
    have hok : boOk t f bs a = true ∧ boOk t f bs b = true := by
      have h := hD.symm
      simp only [Bool.and_eq_true] at h
      exact ⟨h.1.1, h.1.2⟩
    have hSL : swL t f bs a b = swF bs i p k q := by unfold swL; rw [e1, e2, e3, e4]; simp
    have HOk : Hid (swOk t f bs a b = blksB t f (swF bs i p k q)) := by show _ = _; unfold swOk; rw [hG, hSL]; rfl
    have HAn : Hid (swA t f bs a b = if blksB t f (swF bs i p k q) = true then swF bs i p k q else []) := by show _ = _; unfold swA; rw [HOk.out, hSL]
    rw [HOk.out, HAn.out]
    have HFn := Lib.hid hB.fnd
    have hsm := hB.small hA.1.2.1
    have HSw := Lib.hid (swF_small hB hA.1.2.1 (i := i) (p := p) (k := k) (q := q) hil hkl)
    have HAsk := Lib.hid (askedB_yes hA)
    have HBa := Lib.hid (fun W (h : Below w.heap.size w W) => HBo.out W h a)
    have HBb := Lib.hid (fun W (h : Below w.heap.size w W) => HBo.out W h b)
    rw [e1, e2, hok.1] at HBa
    rw [e3, e4, hok.2] at HBb
    have HV2 := Lib.hid (fun W (h : Below w.heap.size w W) z (h1 : GrpsAt W z (swF bs i p k q)) => HVo.out W h z _ h1 HSw.out)
    rw [HAsk.out] at HV2
    simp only [Bool.true_and] at HV2
    obtain ⟨r, hr⟩ : ∃ r, blksB t f (swF bs i p k q) = r := ⟨_, rfl⟩
    rw [hr] at HV2 ⊢
    obtain ⟨vb, vo, rfl, hRows⟩ := grp_rows HGr.out (by omega)
    obtain ⟨rb9, ro9, rc9, hrc, hrm, hRi⟩ := hRows i hil (by omega)
    obtain ⟨kb9, ko9, kc9, hkc, hkm, hRk⟩ := hRows k hkl (by omega)
    have HRi := Lib.hid hRi
    have HRk := Lib.hid hRk
    have HRows := Lib.hid hRows
    have hli := hsm.2 i hil
    have hlk := hsm.2 k hkl
    have hbl := hsm.1
    have HLm := Lib.hid hsm.2
    clear hRi hRk hRows hSL hok hD e1 e2 e3 e4 HMain HGd hG HOk HAn hA hB hsm HVo HBo hr
    have hne1 : ((i : Int) == (k : Int)) = false := by rw [beq_eq_false_iff_ne]; omega
    have hne3 : ¬ i = k := fun e => hne e.symm
    have hne2 := hne
    go_enter Try.func44, Try.ntmps44
    go_wp2_with fail
    go_at_call 42
    refine (HBa.out _ (((Below.refl _ _).alloc (Nat.le_refl _) _).alloc (by simp) _)).mono ?_
    rintro e w1 ⟨rfl, hb1⟩
    have HB1 : Hid (Below w.heap.size w w1) := (((Below.refl _ _).alloc (Nat.le_refl _) _).alloc (by simp) _).trans (hb1.mono (by simp; omega))
    have p0 : w1.cell? ⟨w.heap.size, 0, none⟩ = some (.slice c0 t.net.stops.length d0) := bkeep hb1 (by go_simp)
    have p1 : w1.cell? ⟨w.heap.size, 1, none⟩ = some (.slice c1 t.net.lines.length d1) := bkeep hb1 (by go_simp)
    have p2 : w1.cell? ⟨w.heap.size, 2, none⟩ = some (.slice c2 t.trips.length d2) := bkeep hb1 (by go_simp)
    have q0 : w1.cell? ⟨w.heap.size + 1, 0, none⟩ = some (.slice fa f.dead.length fc) := bkeep hb1 (by go_simp)
    have q1 : w1.cell? ⟨w.heap.size + 1, 1, none⟩ = some (.int .i64 f.turn) := bkeep hb1 (by go_simp)
    have hz1 : w.heap.size + 2 ≤ w1.heap.size := by have := hb1.size; simp at this; omega
    clear hb1
    go_wp2_with fail
    go_at_call 42
    refine (HBb.out _ HB1.out).mono ?_
    rintro e w2 ⟨rfl, hb2⟩
    have HB2 : Hid (Below w.heap.size w w2) := HB1.out.trans (hb2.mono HB1.out.size)
    have hz2 : w.heap.size + 2 ≤ w2.heap.size := Nat.le_trans hz1 hb2.size
    have P0 := acell (bkeep hb2 p0) (.cells #[] 80)
    have P1 := acell (bkeep hb2 p1) (.cells #[] 80)
    have P2 := acell (bkeep hb2 p2) (.cells #[] 80)
    have Q0 := acell (bkeep hb2 q0) (.cells #[] 80)
    have Q1 := acell (bkeep hb2 q1) (.cells #[] 80)
    have HGo := Lib.hid (GrpsOwn.noneB (lit_grpsB (B := w.heap.size + 2) w2 hz2))
    clear hb2 HB1 p0 p1 p2 q0 q1
    go_wp2_with fail
    go_loopw [18, 54] (fun sv qv wr => ∃ (m sc : Nat) (sa : Option Addr) (vs : List Value), m ≤ bs.length ∧ qv = .int .i64 m ∧ sv = .slice sa m sc ∧ Hid (GrpsOwn (w.heap.size + 2) wr.heap.size wr (.slice sa m sc) vs ((swF bs i p k q).take m)) ∧ wr.cell? ⟨w.heap.size, 0, none⟩ = some (.slice c0 t.net.stops.length d0) ∧ wr.cell? ⟨w.heap.size, 1, none⟩ = some (.slice c1 t.net.lines.length d1) ∧ wr.cell? ⟨w.heap.size, 2, none⟩ = some (.slice c2 t.trips.length d2) ∧ wr.cell? ⟨w.heap.size + 1, 0, none⟩ = some (.slice fa f.dead.length fc) ∧ wr.cell? ⟨w.heap.size + 1, 1, none⟩ = some (.int .i64 f.turn) ∧ Hid (Below w.heap.size w wr ∧ w.heap.size + 2 ≤ wr.heap.size))
      (fun _ qv _ => bs.length - (RowKit.intOf qv).toNat)
    case atStart => exact ⟨0, 0, _, [], Nat.zero_le _, rfl, rfl, HGo.out, P0, P1, P2, Q0, Q1, HB2.out.alloc (by omega) _, by simp; omega⟩
    case round =>
      clear P0 P1 P2 Q0 Q1 HGo HB2 hz1 hz2
      obtain ⟨m, sc, sa, vs, hm, rfl, rfl, HG0, p0, p1, p2, q0, q1, HB⟩ := hrel
      have hzB := HB.out.2
      by_cases hlt : m < bs.length
      · have hml : ((swF bs i p k q).take m).length = m := by rw [List.length_take, swF_len]; omega
        have hm1 : (m : Int) < (bs.length : Int) := by omega
        have hi1 : (i : Int) < (bs.length : Int) := by omega
        have hk1 : (k : Int) < (bs.length : Int) := by omega
        by_cases hmi : m = i
        · subst hmi
          have hmk : ¬ m = k := fun e => hne e.symm
          have y := (HRi.out _ HB.out.1).1
          have yO := (HRk.out _ HB.out.1).1
          have hpr : p + 1 ≤ rc9 := by omega
          have hpr1 : ((p : Nat) : Int) + 1 ≤ ((rc9 : Nat) : Int) := by omega
          have hpr0 : (0 : Int) ≤ ((p : Nat) : Int) + 1 := by omega
          have hptn : (((p : Nat) : Int) + 1).toNat = p + 1 := by omega
          have hqtn : (((q : Nat) : Int) + 1).toNat = q + 1 := by omega
          have hqr0 : (0 : Int) ≤ ((q : Nat) : Int) + 1 := by omega
          have hqr1 : ((q : Nat) : Int) + 1 ≤ ((bs[k].length : Nat) : Int) := by omega
          have hqr : q + 1 ≤ bs[k].length := by omega
          have hok1 : ((k : Nat) : Int) < (bs.length : Int) := by omega
          have hwp : IntKind.i64.wrap (((p : Nat) : Int) + 1) = ((p : Nat) : Int) + 1 := IntWalk.i64_in _ (by omega)
          have hwq : IntKind.i64.wrap (((q : Nat) : Int) + 1) = ((q : Nat) : Int) + 1 := IntWalk.i64_in _ (by omega)
          have hlx : (bs[m].take (p + 1)).length = p + 1 := by rw [List.length_take]; omega
          have hly : (bs[k].drop (q + 1)).length = bs[k].length - (q + 1) := by rw [List.length_drop]
          have hO2 := o2_eq kb9 kc9 (q + 1) ko9
          have HRO : Hid (∀ W, Below w.heap.size w W → RowAt W (.slice (some ⟨kb9, o2F kc9 (q + 1) ko9, none⟩) (bs[k].length - (q + 1)) (kc9 - (q + 1))) (ints (bs[k].drop (q + 1)))) := fun W hW => rowDropO (k := q + 1) (HRk.out W hW).2 (by omega)
          generalize o2F kc9 (q + 1) ko9 = O2 at *
          have HCc : Hid (∀ W, Below w.heap.size w W → ∀ g gc, W.cell? ⟨g, 0, none⟩ = some (.slice (some ⟨rb9, ro9, none⟩) (p + 1) rc9) → W.cell? ⟨g, 1, none⟩ = some (.slice (some ⟨kb9, O2, none⟩) (bs[k].length - (q + 1)) (kc9 - (q + 1))) → Calls Try.prog 87 #[.slice (some ⟨g, 0, none⟩) 2 gc] W fun e w' => ∃ v', e = .returned v' ∧ w'.ownsRow W.heap.size 3 1 v' ((bs[m].take (p + 1)).length + (bs[k].drop (q + 1)).length) (ints (bs[m].take (p + 1) ++ bs[k].drop (q + 1))) ∧ Below W.heap.size W w') := fun W hW g gc h1 h2 => by
            have r1 := rowTakeB (k := p + 1) (HRi.out W hW).2 (by omega)
            have r2 := HRO.out W hW
            have h1' : W.cell? ⟨g, 0, none⟩ = some (.slice (some ⟨rb9, ro9, none⟩) (bs[m].take (p + 1)).length rc9) := by rw [hlx]; exact h1
            have h2' : W.cell? ⟨g, 1, none⟩ = some (.slice (some ⟨kb9, O2, none⟩) (bs[k].drop (q + 1)).length (kc9 - (q + 1))) := by rw [hly]; exact h2
            have r1' : RowAt W (.slice (some ⟨rb9, ro9, none⟩) (bs[m].take (p + 1)).length rc9) (ints (bs[m].take (p + 1))) := by rw [hlx]; exact r1
            have r2' : RowAt W (.slice (some ⟨kb9, O2, none⟩) (bs[k].drop (q + 1)).length (kc9 - (q + 1))) (ints (bs[k].drop (q + 1))) := by rw [hly]; exact r2
            exact concat2_any g gc _ _ _ _ _ _ _ _ W h1' h2' r1' r2' (by rw [hlx]; omega) (by rw [hlx, hly]; omega)
          clear hlx hly HRO
          go_upto_region 12 with fail
          refine wp_region_held_drew (S := (fun w' => w'.cell? ⟨w.heap.size, 0, none⟩ = some (.slice c0 t.net.stops.length d0) ∧ w'.cell? ⟨w.heap.size, 1, none⟩ = some (.slice c1 t.net.lines.length d1) ∧ w'.cell? ⟨w.heap.size, 2, none⟩ = some (.slice c2 t.trips.length d2) ∧ w'.cell? ⟨w.heap.size + 1, 0, none⟩ = some (.slice fa f.dead.length fc) ∧ w'.cell? ⟨w.heap.size + 1, 1, none⟩ = some (.int .i64 f.turn) ∧ w'.cell? ⟨vb, vo + k, none⟩ = some (.slice (some ⟨kb9, ko9, none⟩) bs[k].length kc9))) (by kernel_rfl) ?_ (fun hHeld => ?_)
          · exact ⟨p0, p1, p2, q0, q1, yO⟩
          refine wpAnyH_take (i := 0) (v := ?_) (by simp only [List.getElem?_toArray, List.getElem?_cons_zero]; rfl) (by kernel_rfl) (by kernel_rfl) (by kernel_rfl) (by exact fun _ _ _ h => h) (Or.inl ⟨by rfl, ?_⟩) (by assumption) ?_
          rotate_left
          · intro w' hSw; obtain ⟨e0, e1, e2, e3, e4, e5⟩ := hSw
            go_simp; try with_reducible rfl
          try simp only [Act.put, List.setIfInBounds_toArray, List.set_cons_zero, List.set_cons_succ]
          refine wpAnyH_take (i := 1) (v := ?_) (by simp only [List.getElem?_toArray, List.getElem?_cons_succ, List.getElem?_cons_zero]; rfl) (by kernel_rfl) (by kernel_rfl) (by kernel_rfl) (by exact fun _ _ _ h => h) (Or.inl ⟨by rfl, ?_⟩) (by assumption) ?_
          rotate_left
          · intro w' hSw; obtain ⟨e0, e1, e2, e3, e4, e5⟩ := hSw
            go_simp; try with_reducible rfl
          try simp only [Act.put, List.setIfInBounds_toArray, List.set_cons_zero, List.set_cons_succ]
          refine wpAnyH_take (i := 2) (v := ?_) (by simp only [List.getElem?_toArray, List.getElem?_cons_succ, List.getElem?_cons_zero]; rfl) (by kernel_rfl) (by kernel_rfl) (by kernel_rfl) (by exact fun _ _ _ h => h) (Or.inl ⟨by rfl, ?_⟩) (by assumption) ?_
          rotate_left
          · intro w' hSw; obtain ⟨e0, e1, e2, e3, e4, e5⟩ := hSw
            go_simp; try with_reducible rfl
          try simp only [Act.put, List.setIfInBounds_toArray, List.set_cons_zero, List.set_cons_succ]
          refine wpAnyH_take (i := 3) (v := ?_) (by simp only [List.getElem?_toArray, List.getElem?_cons_succ, List.getElem?_cons_zero]; rfl) (by kernel_rfl) (by kernel_rfl) (by kernel_rfl) (by exact fun _ _ _ h => h) (Or.inl ⟨by rfl, ?_⟩) (by assumption) ?_
          rotate_left
          · intro w' hSw; obtain ⟨e0, e1, e2, e3, e4, e5⟩ := hSw
            go_simp; try with_reducible rfl
          try simp only [Act.put, List.setIfInBounds_toArray, List.set_cons_zero, List.set_cons_succ]
          refine wpAnyH_take (i := 4) (v := ?_) (by simp only [List.getElem?_toArray, List.getElem?_cons_succ, List.getElem?_cons_zero]; rfl) (by kernel_rfl) (by kernel_rfl) (by kernel_rfl) (by exact fun _ _ _ h => h) (Or.inl ⟨by rfl, ?_⟩) (by assumption) ?_
          rotate_left
          · intro w' hSw; obtain ⟨e0, e1, e2, e3, e4, e5⟩ := hSw
            go_simp; try with_reducible rfl
          try simp only [Act.put, List.setIfInBounds_toArray, List.set_cons_zero, List.set_cons_succ]
          refine wpAnyH_take (i := 5) (v := ?_) (by simp only [List.getElem?_toArray, List.getElem?_cons_succ, List.getElem?_cons_zero]; rfl) (by kernel_rfl) (by kernel_rfl) (by kernel_rfl) (by exact fun _ _ _ h => h) (Or.inl ⟨by rfl, ?_⟩) (by assumption) ?_
          rotate_left
          · intro w' hSw; obtain ⟨e0, e1, e2, e3, e4, e5⟩ := hSw
            go_simp; try with_reducible rfl
          try simp only [Act.put, List.setIfInBounds_toArray, List.set_cons_zero, List.set_cons_succ]
          refine wpAnyH_take (i := 6) (v := ?_) (by simp only [List.getElem?_toArray, List.getElem?_cons_succ, List.getElem?_cons_zero]; rfl) (by kernel_rfl) (by kernel_rfl) (by kernel_rfl) (by exact fun _ _ _ h => h) (Or.inl ⟨by rfl, ?_⟩) (by assumption) ?_
          rotate_left
          · intro w' hSw; obtain ⟨e0, e1, e2, e3, e4, e5⟩ := hSw
            go_simp; try with_reducible rfl
          try simp only [Act.put, List.setIfInBounds_toArray, List.set_cons_zero, List.set_cons_succ]
          refine wpAnyH_take (i := 7) (v := ?_) (by simp only [List.getElem?_toArray, List.getElem?_cons_succ, List.getElem?_cons_zero]; rfl) (by kernel_rfl) (by kernel_rfl) (by kernel_rfl) (by exact fun _ _ _ h => h) (Or.inl ⟨by rfl, ?_⟩) (by assumption) ?_
          rotate_left
          · intro w' hSw; obtain ⟨e0, e1, e2, e3, e4, e5⟩ := hSw
            go_simp; try with_reducible rfl
          try simp only [Act.put, List.setIfInBounds_toArray, List.set_cons_zero, List.set_cons_succ]
          refine wpAnyH_take (i := 8) (v := ?_) (by simp only [List.getElem?_toArray, List.getElem?_cons_succ, List.getElem?_cons_zero]; rfl) (by kernel_rfl) (by kernel_rfl) (by kernel_rfl) (by exact fun _ _ _ h => h) (Or.inl ⟨by rfl, ?_⟩) (by assumption) ?_
          rotate_left
          · intro w' hSw; obtain ⟨e0, e1, e2, e3, e4, e5⟩ := hSw
            go_simp; try with_reducible rfl
          try simp only [Act.put, List.setIfInBounds_toArray, List.set_cons_zero, List.set_cons_succ]
          refine wpAnyH_take (i := 9) (v := ?_) (by simp only [List.getElem?_toArray, List.getElem?_cons_succ, List.getElem?_cons_zero]; rfl) (by kernel_rfl) (by kernel_rfl) (by kernel_rfl) (by exact fun _ _ _ h => h) (Or.inl ⟨by rfl, ?_⟩) (by assumption) ?_
          rotate_left
          · intro w' hSw; obtain ⟨e0, e1, e2, e3, e4, e5⟩ := hSw
            go_simp; try with_reducible rfl
          try simp only [Act.put, List.setIfInBounds_toArray, List.set_cons_zero, List.set_cons_succ]
          refine wpAnyH_take (i := 10) (v := ?_) (by simp only [List.getElem?_toArray, List.getElem?_cons_succ, List.getElem?_cons_zero]; rfl) (by kernel_rfl) (by kernel_rfl) (by kernel_rfl) (by exact fun _ _ _ h => h) (Or.inl ⟨by rfl, ?_⟩) (by assumption) ?_
          rotate_left
          · intro w' hSw; obtain ⟨e0, e1, e2, e3, e4, e5⟩ := hSw
            go_simp; try with_reducible rfl
          try simp only [Act.put, List.setIfInBounds_toArray, List.set_cons_zero, List.set_cons_succ]
          refine wpAnyH_ready (rs := [11]) (by kernel_rfl) (by simp) ?_
          refine AllReadyH.cons (by simp only [List.getElem?_toArray, List.getElem?_cons_succ, List.getElem?_cons_zero]; rfl) (fun K hK => ?_) AllReadyH.nil
          go_simp
          obtain ⟨wA, hwA⟩ : ∃ wA : World, wA = (World.alloc wr (.cells #[.slice (some ⟨rb9, ro9, none⟩) (p + 1) rc9, .slice (some ⟨kb9, O2, none⟩) (bs[k].length - (q + 1)) (kc9 - (q + 1))] 80)).drew := ⟨_, rfl⟩
          have rb : Below wr.heap.size wr wA := by rw [hwA]; exact ((Below.refl _ _).alloc (Nat.le_refl _) _).drew
          have hS2 : wA.cell? ⟨w.heap.size, 0, none⟩ = some (.slice c0 t.net.stops.length d0) ∧ wA.cell? ⟨w.heap.size, 1, none⟩ = some (.slice c1 t.net.lines.length d1) ∧ wA.cell? ⟨w.heap.size, 2, none⟩ = some (.slice c2 t.trips.length d2) ∧ wA.cell? ⟨w.heap.size + 1, 0, none⟩ = some (.slice fa f.dead.length fc) ∧ wA.cell? ⟨w.heap.size + 1, 1, none⟩ = some (.int .i64 f.turn) ∧ wA.cell? ⟨vb, vo + k, none⟩ = some (.slice (some ⟨kb9, ko9, none⟩) bs[k].length kc9) := ⟨bkeep rb p0, bkeep rb p1, bkeep rb p2, bkeep rb q0, bkeep rb q1, bkeep rb yO⟩
          have HBA : Hid (Below w.heap.size w wA ∧ w.heap.size + 2 ≤ wA.heap.size) := ⟨HB.out.1.trans (rb.mono HB.out.1.size), Nat.le_trans HB.out.2 rb.size⟩
          have HGA := Lib.hid (HG0.out.inB rb rb.size)
          have HU : Hid (wA.cell? ⟨wr.heap.size, 0, none⟩ = some (.slice (some ⟨rb9, ro9, none⟩) (p + 1) rc9) ∧ wA.cell? ⟨wr.heap.size, 1, none⟩ = some (.slice (some ⟨kb9, O2, none⟩) (bs[k].length - (q + 1)) (kc9 - (q + 1)))) := by rw [hwA]; exact ⟨by show World.cell? (World.alloc wr _) _ = _; go_simp, by show World.cell? (World.alloc wr _) _ = _; go_simp⟩
          have hszA : wr.heap.size ≤ wA.heap.size := rb.size
          rw [← hwA]
          clear rb hwA
          refine hK.out _ _ hS2 (fun hH11 => ?_)
          obtain ⟨p0, p1, p2, q0, q1, yO⟩ := hS2
          clear hK K
          try simp only [Act.put, List.setIfInBounds_toArray, List.set_cons_zero, List.set_cons_succ]
          refine wpAnyH_ready (rs := [12]) (by kernel_rfl) (by simp) ?_
          refine AllReadyH.cons (by simp only [List.getElem?_toArray, List.getElem?_cons_succ, List.getElem?_cons_zero]; rfl) (fun K hK => ?_) AllReadyH.nil
          go_simp
          go_at_call 87
          refine (HCc.out wA HBA.out.1 wr.heap.size 2 HU.out.1 HU.out.2).mono ?_
          rintro e wN ⟨x', rfl, hown, hb⟩
          have hS2 : wN.cell? ⟨w.heap.size, 0, none⟩ = some (.slice c0 t.net.stops.length d0) ∧ wN.cell? ⟨w.heap.size, 1, none⟩ = some (.slice c1 t.net.lines.length d1) ∧ wN.cell? ⟨w.heap.size, 2, none⟩ = some (.slice c2 t.trips.length d2) ∧ wN.cell? ⟨w.heap.size + 1, 0, none⟩ = some (.slice fa f.dead.length fc) ∧ wN.cell? ⟨w.heap.size + 1, 1, none⟩ = some (.int .i64 f.turn) ∧ wN.cell? ⟨vb, vo + k, none⟩ = some (.slice (some ⟨kb9, ko9, none⟩) bs[k].length kc9) := ⟨bkeep hb p0, bkeep hb p1, bkeep hb p2, bkeep hb q0, bkeep hb q1, bkeep hb yO⟩
          have HBn : Hid (Below w.heap.size w wN ∧ w.heap.size + 2 ≤ wN.heap.size) := ⟨HBA.out.1.trans (hb.mono HBA.out.1.size), Nat.le_trans HBA.out.2 hb.size⟩
          have HG := Lib.hid (HGA.out.laterB hb)
          have hszn : wA.heap.size ≤ wN.heap.size := hb.size
          obtain ⟨xa, xl, xc, rfl⟩ : ∃ xa xl xc, x' = .slice xa xl xc := by obtain ⟨a, c, h⟩ := own_shape hown; exact ⟨_, _, _, h⟩
          have HX : Hid (IntsIn wA.heap.size wN.heap.size wN (.slice xa xl xc) (bs[m].take (p + 1) ++ bs[k].drop (q + 1))) := ⟨by rw [List.length_append]; exact hown, fun g hg => (hown.lt g hg).2⟩
          clear hown hb HU HGA
          go_wp2_with fail
          refine hK.out _ _ hS2 (fun hH12 => ?_)
          obtain ⟨p0, p1, p2, q0, q1, yO⟩ := hS2
          clear hK K
          try simp only [Act.put, List.setIfInBounds_toArray, List.set_cons_zero, List.set_cons_succ]
          refine wpAnyH_take (i := 13) (v := ?_) (by simp only [List.getElem?_toArray, List.getElem?_cons_succ, List.getElem?_cons_zero]; rfl) (by kernel_rfl) (by kernel_rfl) (by kernel_rfl) (by exact fun _ _ _ h => h) (Or.inl ⟨by rfl, ?_⟩) (by assumption) ?_
          rotate_left
          · intro w' hSw; obtain ⟨e0, e1, e2, e3, e4, e5⟩ := hSw
            go_simp; try with_reducible rfl
          try simp only [Act.put, List.setIfInBounds_toArray, List.set_cons_zero, List.set_cons_succ]
          refine wpAnyH_done (by kernel_rfl) ?_ _
          have hzn := HBn.out.2
          have hG := HG.out.row
          rw [hml] at hG
          have HRw := Lib.hid hG
          clear hG
          go_wp2_with (at_builtin; refine wpList_append_own_at _ rfl _ _ 26 rfl (w.heap.size + 2) 80 j0 (.slice none 0 0) 1 24 Try.underlying26 hj0 hy0 hy1 hy2 rfl (by decide) _ m _ rfl (HRw.out.alloc _) ⟨wN.heap.size, 0, none⟩ 1 1 [.slice xa xl xc] rfl rfl ?c1 ?c2 ?c3 ?c4 ?c5 ?_)
          case c1 => exact one_new _ _
          case c2 => intro u hu; simp at hu; subst hu; rfl
          case c3 => unfold maxLen; omega
          case c4 => omega
          case c5 => simp; omega
          intro v' w3 hown' hgrow _ hat
          have HG3 : Hid (GrpsOwn (w.heap.size + 2) w3.heap.size w3 v' (vs ++ [.slice xa xl xc]) ((swF bs m p k q).take (m + 1))) := by
            show GrpsOwn _ _ _ _ _ _
            rw [swF_take hlt, sw_at bs m p k q hil hkl]
            refine GrpsOwn.snocB HG.out (Nat.le_refl _) (by omega) HX.out (Nat.le_refl _) hszn ((Below.refl _ _).alloc (Nat.le_refl _) _) hgrow ?_ ?_
            · rw [hml]; exact hown'
            · simpa using hat
          have hg1 : ∀ g, Value.ownBlock (.slice sa m sc) = some g → w.heap.size + 2 ≤ g := fun g hg => (HRw.out.lt g hg).1
          have p0 : w3.cell? ⟨w.heap.size, 0, none⟩ = some (.slice c0 t.net.stops.length d0) := hgrow.cell (acell p0 _) (fun e => by have := hg1 _ e.symm; dsimp only at this; omega)
          have p1 : w3.cell? ⟨w.heap.size, 1, none⟩ = some (.slice c1 t.net.lines.length d1) := hgrow.cell (acell p1 _) (fun e => by have := hg1 _ e.symm; dsimp only at this; omega)
          have p2 : w3.cell? ⟨w.heap.size, 2, none⟩ = some (.slice c2 t.trips.length d2) := hgrow.cell (acell p2 _) (fun e => by have := hg1 _ e.symm; dsimp only at this; omega)
          have q0 : w3.cell? ⟨w.heap.size + 1, 0, none⟩ = some (.slice fa f.dead.length fc) := hgrow.cell (acell q0 _) (fun e => by have := hg1 _ e.symm; dsimp only at this; omega)
          have q1 : w3.cell? ⟨w.heap.size + 1, 1, none⟩ = some (.int .i64 f.turn) := hgrow.cell (acell q1 _) (fun e => by have := hg1 _ e.symm; dsimp only at this; omega)
          have HB3 : Hid (Below w.heap.size w w3 ∧ w.heap.size + 2 ≤ w3.heap.size) := ⟨(HBn.out.1.alloc (by omega) _).grown hgrow (by simp; omega) (fun g hg => by have := hg1 g hg; omega), by have := hgrow.size; simp at this; omega⟩
          obtain ⟨a6, c6, rfl⟩ := own_shape hown'
          clear hown' hgrow hg1 hat
          go_wp2_with fail
          go_roundw
          case rel => exact ⟨m + 1, c6, a6, _, by omega, by go_num, rfl, HG3, p0, p1, p2, q0, q1, HB3⟩
          case measure => simp [RowKit.intOf]; omega
        · by_cases hmk : m = k
          · subst hmk
            have hmiB : ((m : Int) == (i : Int)) = false := by rw [beq_eq_false_iff_ne]; omega
            have hmiN : ¬ (m : Int) = (i : Int) := by omega
            have y := (HRk.out _ HB.out.1).1
            have yO := (HRi.out _ HB.out.1).1
            have hpr : q + 1 ≤ kc9 := by omega
            have hpr1 : ((q : Nat) : Int) + 1 ≤ ((kc9 : Nat) : Int) := by omega
            have hpr0 : (0 : Int) ≤ ((q : Nat) : Int) + 1 := by omega
            have hptn : (((q : Nat) : Int) + 1).toNat = q + 1 := by omega
            have hqtn : (((p : Nat) : Int) + 1).toNat = p + 1 := by omega
            have hqr0 : (0 : Int) ≤ ((p : Nat) : Int) + 1 := by omega
            have hqr1 : ((p : Nat) : Int) + 1 ≤ ((bs[i].length : Nat) : Int) := by omega
            have hqr : p + 1 ≤ bs[i].length := by omega
            have hok1 : ((i : Nat) : Int) < (bs.length : Int) := by omega
            have hwp : IntKind.i64.wrap (((q : Nat) : Int) + 1) = ((q : Nat) : Int) + 1 := IntWalk.i64_in _ (by omega)
            have hwq : IntKind.i64.wrap (((p : Nat) : Int) + 1) = ((p : Nat) : Int) + 1 := IntWalk.i64_in _ (by omega)
            have hlx : (bs[m].take (q + 1)).length = q + 1 := by rw [List.length_take]; omega
            have hly : (bs[i].drop (p + 1)).length = bs[i].length - (p + 1) := by rw [List.length_drop]
            have hO2 := o2_eq rb9 rc9 (p + 1) ro9
            have HRO : Hid (∀ W, Below w.heap.size w W → RowAt W (.slice (some ⟨rb9, o2F rc9 (p + 1) ro9, none⟩) (bs[i].length - (p + 1)) (rc9 - (p + 1))) (ints (bs[i].drop (p + 1)))) := fun W hW => rowDropO (k := p + 1) (HRi.out W hW).2 (by omega)
            generalize o2F rc9 (p + 1) ro9 = O2 at *
            have HCc : Hid (∀ W, Below w.heap.size w W → ∀ g gc, W.cell? ⟨g, 0, none⟩ = some (.slice (some ⟨kb9, ko9, none⟩) (q + 1) kc9) → W.cell? ⟨g, 1, none⟩ = some (.slice (some ⟨rb9, O2, none⟩) (bs[i].length - (p + 1)) (rc9 - (p + 1))) → Calls Try.prog 87 #[.slice (some ⟨g, 0, none⟩) 2 gc] W fun e w' => ∃ v', e = .returned v' ∧ w'.ownsRow W.heap.size 3 1 v' ((bs[m].take (q + 1)).length + (bs[i].drop (p + 1)).length) (ints (bs[m].take (q + 1) ++ bs[i].drop (p + 1))) ∧ Below W.heap.size W w') := fun W hW g gc h1 h2 => by
              have r1 := rowTakeB (k := q + 1) (HRk.out W hW).2 (by omega)
              have r2 := HRO.out W hW
              have h1' : W.cell? ⟨g, 0, none⟩ = some (.slice (some ⟨kb9, ko9, none⟩) (bs[m].take (q + 1)).length kc9) := by rw [hlx]; exact h1
              have h2' : W.cell? ⟨g, 1, none⟩ = some (.slice (some ⟨rb9, O2, none⟩) (bs[i].drop (p + 1)).length (rc9 - (p + 1))) := by rw [hly]; exact h2
              have r1' : RowAt W (.slice (some ⟨kb9, ko9, none⟩) (bs[m].take (q + 1)).length kc9) (ints (bs[m].take (q + 1))) := by rw [hlx]; exact r1
              have r2' : RowAt W (.slice (some ⟨rb9, O2, none⟩) (bs[i].drop (p + 1)).length (rc9 - (p + 1))) (ints (bs[i].drop (p + 1))) := by rw [hly]; exact r2
              exact concat2_any g gc _ _ _ _ _ _ _ _ W h1' h2' r1' r2' (by rw [hlx]; omega) (by rw [hlx, hly]; omega)
            clear hlx hly HRO
            go_upto_region 14 with fail
            refine wp_region_held_drew (S := (fun w' => w'.cell? ⟨w.heap.size, 0, none⟩ = some (.slice c0 t.net.stops.length d0) ∧ w'.cell? ⟨w.heap.size, 1, none⟩ = some (.slice c1 t.net.lines.length d1) ∧ w'.cell? ⟨w.heap.size, 2, none⟩ = some (.slice c2 t.trips.length d2) ∧ w'.cell? ⟨w.heap.size + 1, 0, none⟩ = some (.slice fa f.dead.length fc) ∧ w'.cell? ⟨w.heap.size + 1, 1, none⟩ = some (.int .i64 f.turn) ∧ w'.cell? ⟨vb, vo + i, none⟩ = some (.slice (some ⟨rb9, ro9, none⟩) bs[i].length rc9))) (by kernel_rfl) ?_ (fun hHeld => ?_)
            · exact ⟨p0, p1, p2, q0, q1, yO⟩
            refine wpAnyH_take (i := 0) (v := ?_) (by simp only [List.getElem?_toArray, List.getElem?_cons_zero]; rfl) (by kernel_rfl) (by kernel_rfl) (by kernel_rfl) (by exact fun _ _ _ h => h) (Or.inl ⟨by rfl, ?_⟩) (by assumption) ?_
            rotate_left
            · intro w' hSw; obtain ⟨e0, e1, e2, e3, e4, e5⟩ := hSw
              go_simp; try with_reducible rfl
            try simp only [Act.put, List.setIfInBounds_toArray, List.set_cons_zero, List.set_cons_succ]
            refine wpAnyH_take (i := 1) (v := ?_) (by simp only [List.getElem?_toArray, List.getElem?_cons_succ, List.getElem?_cons_zero]; rfl) (by kernel_rfl) (by kernel_rfl) (by kernel_rfl) (by exact fun _ _ _ h => h) (Or.inl ⟨by rfl, ?_⟩) (by assumption) ?_
            rotate_left
            · intro w' hSw; obtain ⟨e0, e1, e2, e3, e4, e5⟩ := hSw
              go_simp; try with_reducible rfl
            try simp only [Act.put, List.setIfInBounds_toArray, List.set_cons_zero, List.set_cons_succ]
            refine wpAnyH_take (i := 2) (v := ?_) (by simp only [List.getElem?_toArray, List.getElem?_cons_succ, List.getElem?_cons_zero]; rfl) (by kernel_rfl) (by kernel_rfl) (by kernel_rfl) (by exact fun _ _ _ h => h) (Or.inl ⟨by rfl, ?_⟩) (by assumption) ?_
            rotate_left
            · intro w' hSw; obtain ⟨e0, e1, e2, e3, e4, e5⟩ := hSw
              go_simp; try with_reducible rfl
            try simp only [Act.put, List.setIfInBounds_toArray, List.set_cons_zero, List.set_cons_succ]
            refine wpAnyH_take (i := 3) (v := ?_) (by simp only [List.getElem?_toArray, List.getElem?_cons_succ, List.getElem?_cons_zero]; rfl) (by kernel_rfl) (by kernel_rfl) (by kernel_rfl) (by exact fun _ _ _ h => h) (Or.inl ⟨by rfl, ?_⟩) (by assumption) ?_
            rotate_left
            · intro w' hSw; obtain ⟨e0, e1, e2, e3, e4, e5⟩ := hSw
              go_simp; try with_reducible rfl
            try simp only [Act.put, List.setIfInBounds_toArray, List.set_cons_zero, List.set_cons_succ]
            refine wpAnyH_take (i := 4) (v := ?_) (by simp only [List.getElem?_toArray, List.getElem?_cons_succ, List.getElem?_cons_zero]; rfl) (by kernel_rfl) (by kernel_rfl) (by kernel_rfl) (by exact fun _ _ _ h => h) (Or.inl ⟨by rfl, ?_⟩) (by assumption) ?_
            rotate_left
            · intro w' hSw; obtain ⟨e0, e1, e2, e3, e4, e5⟩ := hSw
              go_simp; try with_reducible rfl
            try simp only [Act.put, List.setIfInBounds_toArray, List.set_cons_zero, List.set_cons_succ]
            refine wpAnyH_take (i := 5) (v := ?_) (by simp only [List.getElem?_toArray, List.getElem?_cons_succ, List.getElem?_cons_zero]; rfl) (by kernel_rfl) (by kernel_rfl) (by kernel_rfl) (by exact fun _ _ _ h => h) (Or.inl ⟨by rfl, ?_⟩) (by assumption) ?_
            rotate_left
            · intro w' hSw; obtain ⟨e0, e1, e2, e3, e4, e5⟩ := hSw
              go_simp; try with_reducible rfl
            try simp only [Act.put, List.setIfInBounds_toArray, List.set_cons_zero, List.set_cons_succ]
            refine wpAnyH_take (i := 6) (v := ?_) (by simp only [List.getElem?_toArray, List.getElem?_cons_succ, List.getElem?_cons_zero]; rfl) (by kernel_rfl) (by kernel_rfl) (by kernel_rfl) (by exact fun _ _ _ h => h) (Or.inl ⟨by rfl, ?_⟩) (by assumption) ?_
            rotate_left
            · intro w' hSw; obtain ⟨e0, e1, e2, e3, e4, e5⟩ := hSw
              go_simp; try with_reducible rfl
            try simp only [Act.put, List.setIfInBounds_toArray, List.set_cons_zero, List.set_cons_succ]
            refine wpAnyH_take (i := 7) (v := ?_) (by simp only [List.getElem?_toArray, List.getElem?_cons_succ, List.getElem?_cons_zero]; rfl) (by kernel_rfl) (by kernel_rfl) (by kernel_rfl) (by exact fun _ _ _ h => h) (Or.inl ⟨by rfl, ?_⟩) (by assumption) ?_
            rotate_left
            · intro w' hSw; obtain ⟨e0, e1, e2, e3, e4, e5⟩ := hSw
              go_simp; try with_reducible rfl
            try simp only [Act.put, List.setIfInBounds_toArray, List.set_cons_zero, List.set_cons_succ]
            refine wpAnyH_take (i := 8) (v := ?_) (by simp only [List.getElem?_toArray, List.getElem?_cons_succ, List.getElem?_cons_zero]; rfl) (by kernel_rfl) (by kernel_rfl) (by kernel_rfl) (by exact fun _ _ _ h => h) (Or.inl ⟨by rfl, ?_⟩) (by assumption) ?_
            rotate_left
            · intro w' hSw; obtain ⟨e0, e1, e2, e3, e4, e5⟩ := hSw
              go_simp; try with_reducible rfl
            try simp only [Act.put, List.setIfInBounds_toArray, List.set_cons_zero, List.set_cons_succ]
            refine wpAnyH_take (i := 9) (v := ?_) (by simp only [List.getElem?_toArray, List.getElem?_cons_succ, List.getElem?_cons_zero]; rfl) (by kernel_rfl) (by kernel_rfl) (by kernel_rfl) (by exact fun _ _ _ h => h) (Or.inl ⟨by rfl, ?_⟩) (by assumption) ?_
            rotate_left
            · intro w' hSw; obtain ⟨e0, e1, e2, e3, e4, e5⟩ := hSw
              go_simp; try with_reducible rfl
            try simp only [Act.put, List.setIfInBounds_toArray, List.set_cons_zero, List.set_cons_succ]
            refine wpAnyH_take (i := 10) (v := ?_) (by simp only [List.getElem?_toArray, List.getElem?_cons_succ, List.getElem?_cons_zero]; rfl) (by kernel_rfl) (by kernel_rfl) (by kernel_rfl) (by exact fun _ _ _ h => h) (Or.inl ⟨by rfl, ?_⟩) (by assumption) ?_
            rotate_left
            · intro w' hSw; obtain ⟨e0, e1, e2, e3, e4, e5⟩ := hSw
              go_simp; try with_reducible rfl
            try simp only [Act.put, List.setIfInBounds_toArray, List.set_cons_zero, List.set_cons_succ]
            refine wpAnyH_ready (rs := [11]) (by kernel_rfl) (by simp) ?_
            refine AllReadyH.cons (by simp only [List.getElem?_toArray, List.getElem?_cons_succ, List.getElem?_cons_zero]; rfl) (fun K hK => ?_) AllReadyH.nil
            go_simp
            obtain ⟨wA, hwA⟩ : ∃ wA : World, wA = (World.alloc wr (.cells #[.slice (some ⟨kb9, ko9, none⟩) (q + 1) kc9, .slice (some ⟨rb9, O2, none⟩) (bs[i].length - (p + 1)) (rc9 - (p + 1))] 80)).drew := ⟨_, rfl⟩
            have rb : Below wr.heap.size wr wA := by rw [hwA]; exact ((Below.refl _ _).alloc (Nat.le_refl _) _).drew
            have hS2 : wA.cell? ⟨w.heap.size, 0, none⟩ = some (.slice c0 t.net.stops.length d0) ∧ wA.cell? ⟨w.heap.size, 1, none⟩ = some (.slice c1 t.net.lines.length d1) ∧ wA.cell? ⟨w.heap.size, 2, none⟩ = some (.slice c2 t.trips.length d2) ∧ wA.cell? ⟨w.heap.size + 1, 0, none⟩ = some (.slice fa f.dead.length fc) ∧ wA.cell? ⟨w.heap.size + 1, 1, none⟩ = some (.int .i64 f.turn) ∧ wA.cell? ⟨vb, vo + i, none⟩ = some (.slice (some ⟨rb9, ro9, none⟩) bs[i].length rc9) := ⟨bkeep rb p0, bkeep rb p1, bkeep rb p2, bkeep rb q0, bkeep rb q1, bkeep rb yO⟩
            have HBA : Hid (Below w.heap.size w wA ∧ w.heap.size + 2 ≤ wA.heap.size) := ⟨HB.out.1.trans (rb.mono HB.out.1.size), Nat.le_trans HB.out.2 rb.size⟩
            have HGA := Lib.hid (HG0.out.inB rb rb.size)
            have HU : Hid (wA.cell? ⟨wr.heap.size, 0, none⟩ = some (.slice (some ⟨kb9, ko9, none⟩) (q + 1) kc9) ∧ wA.cell? ⟨wr.heap.size, 1, none⟩ = some (.slice (some ⟨rb9, O2, none⟩) (bs[i].length - (p + 1)) (rc9 - (p + 1)))) := by rw [hwA]; exact ⟨by show World.cell? (World.alloc wr _) _ = _; go_simp, by show World.cell? (World.alloc wr _) _ = _; go_simp⟩
            have hszA : wr.heap.size ≤ wA.heap.size := rb.size
            rw [← hwA]
            clear rb hwA
            refine hK.out _ _ hS2 (fun hH11 => ?_)
            obtain ⟨p0, p1, p2, q0, q1, yO⟩ := hS2
            clear hK K
            try simp only [Act.put, List.setIfInBounds_toArray, List.set_cons_zero, List.set_cons_succ]
            refine wpAnyH_ready (rs := [12]) (by kernel_rfl) (by simp) ?_
            refine AllReadyH.cons (by simp only [List.getElem?_toArray, List.getElem?_cons_succ, List.getElem?_cons_zero]; rfl) (fun K hK => ?_) AllReadyH.nil
            go_simp
            go_at_call 87
            refine (HCc.out wA HBA.out.1 wr.heap.size 2 HU.out.1 HU.out.2).mono ?_
            rintro e wN ⟨x', rfl, hown, hb⟩
            have hS2 : wN.cell? ⟨w.heap.size, 0, none⟩ = some (.slice c0 t.net.stops.length d0) ∧ wN.cell? ⟨w.heap.size, 1, none⟩ = some (.slice c1 t.net.lines.length d1) ∧ wN.cell? ⟨w.heap.size, 2, none⟩ = some (.slice c2 t.trips.length d2) ∧ wN.cell? ⟨w.heap.size + 1, 0, none⟩ = some (.slice fa f.dead.length fc) ∧ wN.cell? ⟨w.heap.size + 1, 1, none⟩ = some (.int .i64 f.turn) ∧ wN.cell? ⟨vb, vo + i, none⟩ = some (.slice (some ⟨rb9, ro9, none⟩) bs[i].length rc9) := ⟨bkeep hb p0, bkeep hb p1, bkeep hb p2, bkeep hb q0, bkeep hb q1, bkeep hb yO⟩
            have HBn : Hid (Below w.heap.size w wN ∧ w.heap.size + 2 ≤ wN.heap.size) := ⟨HBA.out.1.trans (hb.mono HBA.out.1.size), Nat.le_trans HBA.out.2 hb.size⟩
            have HG := Lib.hid (HGA.out.laterB hb)
            have hszn : wA.heap.size ≤ wN.heap.size := hb.size
            obtain ⟨xa, xl, xc, rfl⟩ : ∃ xa xl xc, x' = .slice xa xl xc := by obtain ⟨a, c, h⟩ := own_shape hown; exact ⟨_, _, _, h⟩
            have HX : Hid (IntsIn wA.heap.size wN.heap.size wN (.slice xa xl xc) (bs[m].take (q + 1) ++ bs[i].drop (p + 1))) := ⟨by rw [List.length_append]; exact hown, fun g hg => (hown.lt g hg).2⟩
            clear hown hb HU HGA
            go_wp2_with fail
            refine hK.out _ _ hS2 (fun hH12 => ?_)
            obtain ⟨p0, p1, p2, q0, q1, yO⟩ := hS2
            clear hK K
            try simp only [Act.put, List.setIfInBounds_toArray, List.set_cons_zero, List.set_cons_succ]
            refine wpAnyH_take (i := 13) (v := ?_) (by simp only [List.getElem?_toArray, List.getElem?_cons_succ, List.getElem?_cons_zero]; rfl) (by kernel_rfl) (by kernel_rfl) (by kernel_rfl) (by exact fun _ _ _ h => h) (Or.inl ⟨by rfl, ?_⟩) (by assumption) ?_
            rotate_left
            · intro w' hSw; obtain ⟨e0, e1, e2, e3, e4, e5⟩ := hSw
              go_simp; try with_reducible rfl
            try simp only [Act.put, List.setIfInBounds_toArray, List.set_cons_zero, List.set_cons_succ]
            refine wpAnyH_done (by kernel_rfl) ?_ _
            have hzn := HBn.out.2
            have hG := HG.out.row
            rw [hml] at hG
            have HRw := Lib.hid hG
            clear hG
            go_wp2_with (at_builtin; refine wpList_append_own_at _ rfl _ _ 26 rfl (w.heap.size + 2) 80 j0 (.slice none 0 0) 1 24 Try.underlying26 hj0 hy0 hy1 hy2 rfl (by decide) _ m _ rfl (HRw.out.alloc _) ⟨wN.heap.size, 0, none⟩ 1 1 [.slice xa xl xc] rfl rfl ?c1 ?c2 ?c3 ?c4 ?c5 ?_)
            case c1 => exact one_new _ _
            case c2 => intro u hu; simp at hu; subst hu; rfl
            case c3 => unfold maxLen; omega
            case c4 => omega
            case c5 => simp; omega
            intro v' w3 hown' hgrow _ hat
            have HG3 : Hid (GrpsOwn (w.heap.size + 2) w3.heap.size w3 v' (vs ++ [.slice xa xl xc]) ((swF bs i p m q).take (m + 1))) := by
              show GrpsOwn _ _ _ _ _ _
              rw [swF_take hlt, sw_at2 bs i p m q hmi hil hkl]
              refine GrpsOwn.snocB HG.out (Nat.le_refl _) (by omega) HX.out (Nat.le_refl _) hszn ((Below.refl _ _).alloc (Nat.le_refl _) _) hgrow ?_ ?_
              · rw [hml]; exact hown'
              · simpa using hat
            have hg1 : ∀ g, Value.ownBlock (.slice sa m sc) = some g → w.heap.size + 2 ≤ g := fun g hg => (HRw.out.lt g hg).1
            have p0 : w3.cell? ⟨w.heap.size, 0, none⟩ = some (.slice c0 t.net.stops.length d0) := hgrow.cell (acell p0 _) (fun e => by have := hg1 _ e.symm; dsimp only at this; omega)
            have p1 : w3.cell? ⟨w.heap.size, 1, none⟩ = some (.slice c1 t.net.lines.length d1) := hgrow.cell (acell p1 _) (fun e => by have := hg1 _ e.symm; dsimp only at this; omega)
            have p2 : w3.cell? ⟨w.heap.size, 2, none⟩ = some (.slice c2 t.trips.length d2) := hgrow.cell (acell p2 _) (fun e => by have := hg1 _ e.symm; dsimp only at this; omega)
            have q0 : w3.cell? ⟨w.heap.size + 1, 0, none⟩ = some (.slice fa f.dead.length fc) := hgrow.cell (acell q0 _) (fun e => by have := hg1 _ e.symm; dsimp only at this; omega)
            have q1 : w3.cell? ⟨w.heap.size + 1, 1, none⟩ = some (.int .i64 f.turn) := hgrow.cell (acell q1 _) (fun e => by have := hg1 _ e.symm; dsimp only at this; omega)
            have HB3 : Hid (Below w.heap.size w w3 ∧ w.heap.size + 2 ≤ w3.heap.size) := ⟨(HBn.out.1.alloc (by omega) _).grown hgrow (by simp; omega) (fun g hg => by have := hg1 g hg; omega), by have := hgrow.size; simp at this; omega⟩
            obtain ⟨a6, c6, rfl⟩ := own_shape hown'
            clear hown' hgrow hg1 hat
            go_wp2_with fail
            go_roundw
            case rel => exact ⟨m + 1, c6, a6, _, by omega, by go_num, rfl, HG3, p0, p1, p2, q0, q1, HB3⟩
            case measure => simp [RowKit.intOf]; omega
          · have hmiB : ((m : Int) == (i : Int)) = false := by rw [beq_eq_false_iff_ne]; omega
            have hmkB : ((m : Int) == (k : Int)) = false := by rw [beq_eq_false_iff_ne]; omega
            have hmiN : ¬ (m : Int) = (i : Int) := by omega
            have hmkN : ¬ (m : Int) = (k : Int) := by omega
            have hmpos := (HFn.out m hlt).1
            obtain ⟨rb, ro, rc, hrcm, hrmm, hRm⟩ := HRows.out m hlt hmpos
            obtain ⟨y, hrw⟩ := hRm _ HB.out.1
            have hlm := HLm.out m hlt
            have HCl := Lib.hid (Try.slices_Clone_int rb ro bs[m].length rc bs[m] wr (Nat.le_refl _) (by omega) (row_cells hrw))
            rw [List.take_of_length_le (Nat.le_refl _)] at HCl
            clear hRm hrw
            go_wp2_with fail
            go_at_call 88
            refine HCl.out.mono ?_
            rintro e wN ⟨x', rfl, hown, -, hb⟩
            have p0 := bkeep hb p0
            have p1 := bkeep hb p1
            have p2 := bkeep hb p2
            have q0 := bkeep hb q0
            have q1 := bkeep hb q1
            have HBn : Hid (Below w.heap.size w wN ∧ w.heap.size + 2 ≤ wN.heap.size) := ⟨HB.out.1.trans (hb.mono HB.out.1.size), Nat.le_trans HB.out.2 hb.size⟩
            have HG := Lib.hid (HG0.out.laterB hb)
            have hszn : wr.heap.size ≤ wN.heap.size := hb.size
            obtain ⟨xa, xl, xc, rfl⟩ : ∃ xa xl xc, x' = .slice xa xl xc := by obtain ⟨a, c, h⟩ := own_shape hown; exact ⟨_, _, _, h⟩
            have HX : Hid (IntsIn wr.heap.size wN.heap.size wN (.slice xa xl xc) bs[m]) := ⟨hown, fun g hg => (hown.lt g hg).2⟩
            clear hown hb y
            have hzn := HBn.out.2
            have hG := HG.out.row
            rw [hml] at hG
            have HRw := Lib.hid hG
            clear hG
            go_wp2_with (at_builtin; refine wpList_append_own_at _ rfl _ _ 26 rfl (w.heap.size + 2) 80 j0 (.slice none 0 0) 1 24 Try.underlying26 hj0 hy0 hy1 hy2 rfl (by decide) _ m _ rfl (HRw.out.alloc _) ⟨wN.heap.size, 0, none⟩ 1 1 [.slice xa xl xc] rfl rfl ?c1 ?c2 ?c3 ?c4 ?c5 ?_)
            case c1 => exact one_new _ _
            case c2 => intro u hu; simp at hu; subst hu; rfl
            case c3 => unfold maxLen; omega
            case c4 => omega
            case c5 => simp; omega
            intro v' w3 hown' hgrow _ hat
            have HG3 : Hid (GrpsOwn (w.heap.size + 2) w3.heap.size w3 v' (vs ++ [.slice xa xl xc]) ((swF bs i p k q).take (m + 1))) := by
              show GrpsOwn _ _ _ _ _ _
              rw [swF_take hlt, sw_other bs i p k q m hmi hmk hlt]
              refine GrpsOwn.snocB HG.out (Nat.le_refl _) (by omega) HX.out (Nat.le_refl _) hszn ((Below.refl _ _).alloc (Nat.le_refl _) _) hgrow ?_ ?_
              · rw [hml]; exact hown'
              · simpa using hat
            have hg1 : ∀ g, Value.ownBlock (.slice sa m sc) = some g → w.heap.size + 2 ≤ g := fun g hg => (HRw.out.lt g hg).1
            have p0 : w3.cell? ⟨w.heap.size, 0, none⟩ = some (.slice c0 t.net.stops.length d0) := hgrow.cell (acell p0 _) (fun e => by have := hg1 _ e.symm; dsimp only at this; omega)
            have p1 : w3.cell? ⟨w.heap.size, 1, none⟩ = some (.slice c1 t.net.lines.length d1) := hgrow.cell (acell p1 _) (fun e => by have := hg1 _ e.symm; dsimp only at this; omega)
            have p2 : w3.cell? ⟨w.heap.size, 2, none⟩ = some (.slice c2 t.trips.length d2) := hgrow.cell (acell p2 _) (fun e => by have := hg1 _ e.symm; dsimp only at this; omega)
            have q0 : w3.cell? ⟨w.heap.size + 1, 0, none⟩ = some (.slice fa f.dead.length fc) := hgrow.cell (acell q0 _) (fun e => by have := hg1 _ e.symm; dsimp only at this; omega)
            have q1 : w3.cell? ⟨w.heap.size + 1, 1, none⟩ = some (.int .i64 f.turn) := hgrow.cell (acell q1 _) (fun e => by have := hg1 _ e.symm; dsimp only at this; omega)
            have HB3 : Hid (Below w.heap.size w w3 ∧ w.heap.size + 2 ≤ w3.heap.size) := ⟨(HBn.out.1.alloc (by omega) _).grown hgrow (by simp; omega) (fun g hg => by have := hg1 g hg; omega), by have := hgrow.size; simp at this; omega⟩
            obtain ⟨a6, c6, rfl⟩ := own_shape hown'
            clear hown' hgrow hg1 hat
            go_wp2_with fail
            go_roundw
            case rel => exact ⟨m + 1, c6, a6, _, by omega, by go_num, rfl, HG3, p0, p1, p2, q0, q1, HB3⟩
            case measure => simp [RowKit.intOf]; omega
      · obtain rfl : m = bs.length := by omega
        have hgx := HG0.out
        have hl := swF_len bs i p k q
        rw [List.take_of_length_le (by omega)] at hgx
        have HGX := Lib.hid hgx
        have HVx := Lib.hid (HV2.out _ HB.out.1 _ (GrpsIn.at ⟨_, hgx⟩))
        clear hgx
        cases r
        · go_wp2_with fail
          go_at_call 27
          refine HVx.out.mono ?_
          rintro e w4 ⟨rfl, hb4⟩
          have HB4 : Hid (Below w.heap.size w w4) := HB.out.1.trans (hb4.mono HB.out.1.size)
          clear hb4
          go_wp2_with fail
          go_ret2
          exact ⟨⟨_, rfl, _, GrpsOwn.noneB (lit_grpsB (B := w.heap.size) w4 HB4.out.size)⟩, HB4.out.alloc HB4.out.size _⟩
        · go_wp2_with fail
          go_at_call 27
          refine HVx.out.mono ?_
          rintro e w4 ⟨rfl, hb4⟩
          have HB4 : Hid (Below w.heap.size w w4) := HB.out.1.trans (hb4.mono HB.out.1.size)
          have HG4 := Lib.hid ((HGX.out.inB (u' := w4.heap.size) hb4 hb4.size).baseB (Nat.le_add_right w.heap.size 2))
          clear hb4
          go_wp2_with fail
          go_ret2
          exact ⟨⟨_, rfl, _, HG4.out⟩, HB4.out⟩
end Go.Proofs.Ytehpeifaknbcnaa

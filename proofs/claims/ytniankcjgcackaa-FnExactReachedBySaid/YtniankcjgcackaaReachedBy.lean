/-
  CONTRACTS of ReachedBy; both sides.
-/
import Derived.Test.YtniankcjgcackaaEarliestArrivals
namespace Go.Proofs.Ytniankcjgcackaa
open Go.RowKit Go.Maps Jrn
set_option linter.unusedVariables false
set_option linter.unusedSimpArgs false

/-- the stops reached -/
def rbL (l : List Int) (by_ : Int) : Nat → List Int
  | 0 => []
  | k + 1 => if 0 ≤ l.getD k 0 ∧ l.getD k 0 ≤ by_ then rbL l by_ k ++ [(k : Int)] else rbL l by_ k
theorem rbL_len (l : List Int) (by_ : Int) : ∀ k, (rbL l by_ k).length ≤ k
  | 0 => Nat.le_refl _
  | k + 1 => by have := rbL_len l by_ k; rw [rbL]; split <;> simp <;> omega
theorem rbL_yes {l : List Int} {by_ x : Int} {k : Nat} (hx : l.getD k 0 = x) (h : 0 ≤ x ∧ x ≤ by_) : rbL l by_ (k + 1) = rbL l by_ k ++ [(k : Int)] := by rw [rbL, if_pos (by rw [hx]; exact h)]
theorem rbL_no {l : List Int} {by_ x : Int} {k : Nat} (hx : l.getD k 0 = x) (h : ¬ (0 ≤ x ∧ x ≤ by_)) : rbL l by_ (k + 1) = rbL l by_ k := by rw [rbL, if_neg (by rw [hx]; exact h)]
noncomputable def rbB (t : TTD) (ch frm at_ by_ : Int) : Bool := eokB t ch frm at_ && timeB by_
noncomputable def rbF (t : TTD) (ch frm at_ by_ : Int) : List Int := if rbB t ch frm at_ by_ then rbL (eaL t ch frm at_ t.net.stops.length) by_ t.net.stops.length else []
theorem eaL_in {t : TTD} {ch frm at_ : Int} (h : EOk t ch frm at_) (k : Nat) : (eaL t ch frm at_ t.net.stops.length).getD k 0 = -1 ∨ 0 ≤ (eaL t ch frm at_ t.net.stops.length).getD k 0 := by
  by_cases hk : k < t.net.stops.length
  · have h1 := arr_min (rides_ok h.1) (rides_in h.1) h.2.1.1 h.2.2.1.1 h.2.2.1.2 h.2.2.2.1 4 (k : Int) (by omega) (by omega)
    rw [eaL_arr h, Int.toNat_natCast] at h1
    rcases h1 with ⟨h1, -⟩ | ⟨h1, -⟩
    · exact .inl h1
    · exact .inr h1
  · right
    rw [List.getD_eq_getElem?_getD, List.getElem?_eq_none (by rw [eaL_len]; omega)]
    exact Int.le_refl 0
theorem rbF_small (t : TTD) (ch frm at_ by_ : Int) : IntsSmall (rbF t ch frm at_ by_) := by
  unfold rbF
  split
  · rename_i h
    have h8 := (eokB_iff (Bool.and_eq_true_iff.1 h).1).1.1.1.2.1
    have := rbL_len (eaL t ch frm at_ t.net.stops.length) by_ t.net.stops.length
    simp only [IntsSmall]; omega
  · simp [IntsSmall]
set_option maxRecDepth 100000 in
set_option maxHeartbeats 4000000 in
theorem specRB_any (v : Value) (t : TTD) (ch frm at_ by_ : Int) (w : World) (hr : TTAt w v t) (hf : TTFits t) (hs : TTSmall t) :
    Calls Try.prog 35 #[v, .int .i64 ch, .int .i64 frm, .int .i64 at_, .int .i64 by_] w fun e w' => StAns w.heap.size (rbF t ch frm at_ by_) (rbB t ch frm at_ by_) e w' ∧ Below w.heap.size w w' := by
  have HF := Lib.hid (fun W (hW : Below w.heap.size w W) => l8From_any v t ch frm at_ W (hr.below rfl hW) hf hs)
  have HT := Lib.hid (fun W => l4Time_any by_ W)
  have HAr := Lib.hid (fun (h : EOk t ch frm at_) W (hW : Below w.heap.size w W) => l8Arrivals_any v t ch frm at_ 4 W (hr.below rfl hW) h.1 h.2.1.1 h.2.1.2 h.2.2.1.1 h.2.2.1.2 h.2.2.2.1 h.2.2.2.2 (Nat.le_refl _))
  obtain ⟨a, c, a', c', b, d, rfl, -, -⟩ := tt_open hr
  clear hr hf hs
  obtain ⟨i0, hi0, hz0, hz1, hz2⟩ := info_parts infoInt
  obtain ⟨wa, hwa⟩ : ∃ wa : World, wa = (w.alloc (.cells #[.slice a t.net.stops.length c, .slice a' t.net.lines.length c', .slice b t.trips.length d] 38)).alloc (.cells #[] 3) := ⟨_, rfl⟩
  have p0 : wa.cell? ⟨w.heap.size, 0, none⟩ = some (.slice a t.net.stops.length c) := by rw [hwa]; go_simp
  have p1 : wa.cell? ⟨w.heap.size, 1, none⟩ = some (.slice a' t.net.lines.length c') := by rw [hwa]; go_simp
  have p2 : wa.cell? ⟨w.heap.size, 2, none⟩ = some (.slice b t.trips.length d) := by rw [hwa]; go_simp
  have hba : Below w.heap.size w wa := by rw [hwa]; exact ((Below.refl _ _).alloc (Nat.le_refl _) _).alloc (by simp) _
  have hO : wa.ownsRow (w.heap.size + 1) 3 1 (.slice (some ⟨w.heap.size + 1, 0, none⟩) 0 0) 0 (ints []) := by
    have h := row_new (w.alloc (.cells #[.slice a t.net.stops.length c, .slice a' t.net.lines.length c', .slice b t.trips.length d] 38)) (w.heap.size + 1) (by simp)
    simp only [World.size_alloc] at h
    rw [hwa]; exact h
  have hza : w.heap.size + 2 ≤ wa.heap.size := by rw [hwa]; simp
  have HWA := Lib.hid hwa
  clear hwa
  cases he : eokB t ch frm at_ with
  | false =>
    rw [he] at HF
    have HR : Hid (rbB t ch frm at_ by_ = false) := by show _ = _; unfold rbB; rw [he]; rfl
    have HR2 : Hid (rbF t ch frm at_ by_ = []) := by show _ = _; unfold rbF; rw [HR.out]; rfl
    rw [HR.out, HR2.out]
    have HO := Lib.hid hO
    clear he HAr hO HT
    go_enter Try.func35, Try.ntmps35
    go_wp2_with fail
    rw [← HWA.out]
    go_at_call 91
    refine (HF.out _ hba).mono ?_
    rintro e w1 ⟨rfl, hb⟩
    have HB1 : Hid (Below w.heap.size w w1) := hba.trans (hb.mono hba.size)
    have HO1 := Lib.hid (own_later HO.out hb)
    clear hb hba p0 p1 p2 hza HWA HO
    go_wp2_with fail
    go_ret2
    exact ⟨⟨_, rfl, own_base HO1.out (Nat.le_succ _)⟩, HB1.out⟩
  | true =>
    rw [he] at HF
    have hok := eokB_iff he
    have HL := Lib.hid (HAr.out hok)
    rw [eaL_arr hok] at HL
    cases ht : timeB by_ with
    | false =>
      rw [ht] at HT
      have HR : Hid (rbB t ch frm at_ by_ = false) := by show _ = _; unfold rbB; rw [he, ht]; rfl
      have HR2 : Hid (rbF t ch frm at_ by_ = []) := by show _ = _; unfold rbF; rw [HR.out]; rfl
      rw [HR.out, HR2.out]
      have HO := Lib.hid hO
      clear he HAr hO HL hok
      go_enter Try.func35, Try.ntmps35
      go_wp2_with fail
      rw [← HWA.out]
      go_at_call 91
      refine (HF.out _ hba).mono ?_
      rintro e w1 ⟨rfl, hb⟩
      have HB1 : Hid (Below w.heap.size w w1) := hba.trans (hb.mono hba.size)
      have HO1 := Lib.hid (own_later HO.out hb)
      clear hb hba p0 p1 p2 hza HWA HO
      go_wp2_with (go_at_call 103; refine (HT.out _).mono ?_; rintro e w4 ⟨rfl, rfl⟩)
      go_ret2
      exact ⟨⟨_, rfl, own_base HO1.out (Nat.le_succ _)⟩, HB1.out⟩
    | true =>
      rw [ht] at HT
      have HR : Hid (rbB t ch frm at_ by_ = true) := by show _ = _; unfold rbB; rw [he, ht]; rfl
      have HR2 : Hid (rbF t ch frm at_ by_ = rbL (eaL t ch frm at_ t.net.stops.length) by_ t.net.stops.length) := by show _ = _; unfold rbF; rw [HR.out]; rfl
      rw [HR.out, HR2.out]
      have HO := Lib.hid hO
      have HLin := Lib.hid (eaL_in hok)
      have HLn := Lib.hid (eaL_len t ch frm at_ t.net.stops.length)
      have h8 : t.net.stops.length ≤ 8 := hok.1.1.1.2.1
      clear he HAr hO hok
      generalize eaL t ch frm at_ t.net.stops.length = l at *
      go_enter Try.func35, Try.ntmps35
      go_wp2_with fail
      rw [← HWA.out]
      go_at_call 91
      refine (HF.out _ hba).mono ?_
      rintro e w1 ⟨rfl, hb⟩
      have HB1 : Hid (Below w.heap.size w w1) := hba.trans (hb.mono hba.size)
      have HO1 := Lib.hid (own_later HO.out hb)
      have z10 := bkeep hb p0
      have z11 := bkeep hb p1
      have z12 := bkeep hb p2
      have hz1' : w.heap.size + 2 ≤ w1.heap.size := Nat.le_trans hza hb.size
      clear hb hba p0 p1 p2 hza HWA HO
      go_wp2_with (go_at_call 103; refine (HT.out _).mono ?_; rintro e w4 ⟨rfl, rfl⟩)
      go_at_call 92
      refine (HL.out _ HB1.out).mono ?_
      rintro e w2 ⟨⟨v', rfl, HAL⟩, hb⟩
      replace HAL := Lib.hid HAL
      have HB2 : Hid (Below w.heap.size w w2) := HB1.out.trans (hb.mono HB1.out.size)
      have HO2 := Lib.hid (own_later HO1.out hb)
      have hz2' : w1.heap.size ≤ w2.heap.size := hb.size
      clear hb z10 z11 z12 HO1
      have HSh := Lib.hid (own_shape HAL.out)
      obtain ⟨av, ac, rfl⟩ := HSh.out
      go_wp2_with fail
      go_loopw [12, 14] (fun o q wr => ∃ n : Nat, n ≤ t.net.stops.length ∧ q = .int .i64 n ∧ Hid (wr.ownsRow (w.heap.size + 1) 3 1 o (rbL l by_ n).length (ints (rbL l by_ n))) ∧ Hid (∀ g, o.ownBlock = some g → g = w.heap.size + 1 ∨ w2.heap.size ≤ g) ∧ Hid (w2.grownBy wr (some (w.heap.size + 1)))) (fun _ q _ => t.net.stops.length - (RowKit.intOf q).toNat)
      case atStart => exact ⟨0, Nat.zero_le _, rfl, HO2.out, fun g hg => .inl (by simpa [Value.ownBlock] using hg.symm), World.grownBy.refl _ _⟩
      case round =>
        obtain ⟨n, hn, rfl, HOwn, HLoc, HG2⟩ := hrel
        obtain ⟨oa, oc, rfl⟩ := own_shape HOwn.out
        by_cases hlt : n < t.net.stops.length
        · have hn1 : (n : Int) < (t.net.stops.length : Int) := by omega
          have hal := HAL.out.lt
          have har := gr_own HG2.out HAL.out (by intro e; have := (hal _ e).1; omega)
          have hgz := HG2.out.size
          have hnl := rbL_len l by_ n
          obtain ⟨ga, rfl, -, -, hca⟩ := ownI_at har (by omega) HLn.out
          have hx := hca n hlt
          have HIn := HLin.out n
          obtain ⟨x, HX⟩ : ∃ x, Hid (l.getD n 0 = x) := ⟨_, rfl⟩
          rw [HX.out] at hx HIn
          clear hal har hca
          by_cases hy : 0 ≤ x ∧ x ≤ by_
          · have HY := rbL_yes HX.out hy
            obtain ⟨l1, HL1⟩ : ∃ l1, Hid (rbL l by_ (n + 1) = l1) := ⟨_, rfl⟩
            rw [HL1.out] at HY
            clear HIn
            go_wp2_with fail
            go_at_call 104
            refine (l1In_yes _ _ _ _ hy).mono ?_
            rintro e w3 ⟨rfl, rfl⟩
            go_wp2_with (at_builtin; refine wpList_append_own_at _ rfl _ _ 45 rfl (w.heap.size + 1) 3 i0 (.int .i64 0) 1 8 Try.underlying45 hi0 hz0 hz1 hz2 rfl (by decide) _ (rbL l by_ n).length _ rfl (HOwn.out.alloc _) ⟨wr.heap.size, 0, none⟩ 1 1 [.int .i64 (n : Int)] rfl rfl ?c1 ?c2 ?c3 ?c4 ?c5 ?_)
            case c1 => exact one_new _ _
            case c2 => intro u hu; simp at hu; subst hu; rfl
            case c3 => unfold maxLen; omega
            case c4 => omega
            case c5 => simp; have := HB2.out.size; omega
            intro v' w4 hown' hgrow _ hloc
            have HO4 : Hid (w4.ownsRow (w.heap.size + 1) 3 1 v' l1.length (ints l1)) := by
              show w4.ownsRow _ _ _ _ _ _
              rw [HY]; simpa [ints] using hown'
            have HLoc4 : Hid (∀ g, v'.ownBlock = some g → g = w.heap.size + 1 ∨ w2.heap.size ≤ g) := fun g hg => by
              rcases hloc with e | e
              · exact HLoc.out g (by rw [← e]; exact hg)
              · rw [e] at hg; simp at hg; exact .inr (by omega)
            have HG4 : Hid (w2.grownBy w4 (some (w.heap.size + 1))) := by
              refine ⟨hgrow.os.trans HG2.out.os, hgrow.tape.trans HG2.out.tape, hgrow.output.trans HG2.out.output, by have := hgrow.size; simp at this; omega, fun q hq hne => ?_⟩
              have hq3 : q < wr.heap.size := by omega
              rw [hgrow.block q (by simp; omega) (fun e => ?_), ← HG2.out.block q hq hne]
              · exact ((Below.refl wr.heap.size wr).alloc (Nat.le_refl _) _).block q hq3
              · rcases HLoc.out q e.symm with h | h
                · exact hne (by rw [h])
                · omega
            clear hown' hgrow hloc
            go_wp2_with fail
            go_roundw
            case rel => exact ⟨n + 1, by omega, by go_num, (by rw [HL1.out]; exact HO4), HLoc4, HG4⟩
            case measure => simp [RowKit.intOf]; omega
          · have HY := rbL_no HX.out hy
            clear HIn
            go_wp2_with fail
            go_at_call 104
            refine (l1In_no _ _ _ _ hy).mono ?_
            rintro e w3 ⟨rfl, rfl⟩
            go_wp2_with fail
            go_roundw
            case rel => exact ⟨n + 1, by omega, by go_num, (by rw [HY]; exact HOwn), HLoc, HG2⟩
            case measure => simp [RowKit.intOf]; omega
        · obtain rfl : n = t.net.stops.length := by omega
          have hn1 : ¬ (t.net.stops.length : Int) < (t.net.stops.length : Int) := by omega
          have HBr : Hid (Below w.heap.size w wr) := HB2.out.trans (below_gr HG2.out (by omega) HB2.out.size)
          go_wp2_with fail
          go_ret2
          exact ⟨⟨_, rfl, own_base HOwn.out (Nat.le_succ _)⟩, HBr.out⟩

set_option maxRecDepth 100000 in
set_option maxHeartbeats 4000000 in
theorem implRB_any (v : Value) (t : TTD) (ch frm at_ by_ : Int) (w : World) (hr : TTAt w v t) (hf : TTFits t) (hs : TTSmall t) :
    Calls Try.prog 36 #[v, .int .i64 ch, .int .i64 frm, .int .i64 at_, .int .i64 by_] w fun e w' => StAns w.heap.size (rbF t ch frm at_ by_) (rbB t ch frm at_ by_) e w' ∧ Below w.heap.size w w' := by
  have HF := Lib.hid (fun W (hW : Below w.heap.size w W) => implEA_any v t ch frm at_ W (hr.below rfl hW) hf hs)
  have HT := Lib.hid (fun W => implValidTime_any by_ W)
  obtain ⟨a, c, a', c', b, d, rfl, -, -⟩ := tt_open hr
  clear hr hf hs
  obtain ⟨i0, hi0, hz0, hz1, hz2⟩ := info_parts infoInt
  obtain ⟨wa, hwa⟩ : ∃ wa : World, wa = (w.alloc (.cells #[.slice a t.net.stops.length c, .slice a' t.net.lines.length c', .slice b t.trips.length d] 38)).alloc (.cells #[] 3) := ⟨_, rfl⟩
  have p0 : wa.cell? ⟨w.heap.size, 0, none⟩ = some (.slice a t.net.stops.length c) := by rw [hwa]; go_simp
  have p1 : wa.cell? ⟨w.heap.size, 1, none⟩ = some (.slice a' t.net.lines.length c') := by rw [hwa]; go_simp
  have p2 : wa.cell? ⟨w.heap.size, 2, none⟩ = some (.slice b t.trips.length d) := by rw [hwa]; go_simp
  have hba : Below w.heap.size w wa := by rw [hwa]; exact ((Below.refl _ _).alloc (Nat.le_refl _) _).alloc (by simp) _
  have hO : wa.ownsRow (w.heap.size + 1) 3 1 (.slice (some ⟨w.heap.size + 1, 0, none⟩) 0 0) 0 (ints []) := by
    have h := row_new (w.alloc (.cells #[.slice a t.net.stops.length c, .slice a' t.net.lines.length c', .slice b t.trips.length d] 38)) (w.heap.size + 1) (by simp)
    simp only [World.size_alloc] at h
    rw [hwa]; exact h
  have hza : w.heap.size + 2 ≤ wa.heap.size := by rw [hwa]; simp
  have HWA := Lib.hid hwa
  clear hwa
  cases he : eokB t ch frm at_ with
  | false =>
    rw [he] at HF
    have HR : Hid (rbB t ch frm at_ by_ = false) := by show _ = _; unfold rbB; rw [he]; rfl
    have HR2 : Hid (rbF t ch frm at_ by_ = []) := by show _ = _; unfold rbF; rw [HR.out]; rfl
    rw [HR.out, HR2.out]
    have HO := Lib.hid hO
    clear he hO HT
    go_enter Try.func36, Try.ntmps36
    go_wp2_with fail
    rw [← HWA.out]
    go_at_call 24
    refine (HF.out _ hba).mono ?_
    rintro e w1 ⟨⟨v', rfl, -⟩, hb⟩
    have HB1 : Hid (Below w.heap.size w w1) := hba.trans (hb.mono hba.size)
    have HO1 := Lib.hid (own_later HO.out hb)
    clear hb hba p0 p1 p2 hza HWA HO
    go_wp2_with fail
    go_ret2
    exact ⟨⟨_, rfl, own_base HO1.out (Nat.le_succ _)⟩, HB1.out⟩
  | true =>
    rw [he] at HF
    have hok := eokB_iff he
    have HEA : Hid (eaF t ch frm at_ = eaL t ch frm at_ t.net.stops.length) := by show _ = _; unfold eaF; rw [he]; rfl
    rw [HEA.out] at HF
    cases ht : timeB by_ with
    | false =>
      rw [ht] at HT
      have HR : Hid (rbB t ch frm at_ by_ = false) := by show _ = _; unfold rbB; rw [he, ht]; rfl
      have HR2 : Hid (rbF t ch frm at_ by_ = []) := by show _ = _; unfold rbF; rw [HR.out]; rfl
      rw [HR.out, HR2.out]
      have HO := Lib.hid hO
      clear he hO hok HEA
      go_enter Try.func36, Try.ntmps36
      go_wp2_with fail
      rw [← HWA.out]
      go_at_call 24
      refine (HF.out _ hba).mono ?_
      rintro e w1 ⟨⟨v', rfl, -⟩, hb⟩
      have HB1 : Hid (Below w.heap.size w w1) := hba.trans (hb.mono hba.size)
      have HO1 := Lib.hid (own_later HO.out hb)
      clear hb hba p0 p1 p2 hza HWA HO
      go_wp2_with (go_at_call 105; refine (HT.out _).mono ?_; rintro e w4 ⟨rfl, rfl⟩)
      go_ret2
      exact ⟨⟨_, rfl, own_base HO1.out (Nat.le_succ _)⟩, HB1.out⟩
    | true =>
      rw [ht] at HT
      have HR : Hid (rbB t ch frm at_ by_ = true) := by show _ = _; unfold rbB; rw [he, ht]; rfl
      have HR2 : Hid (rbF t ch frm at_ by_ = rbL (eaL t ch frm at_ t.net.stops.length) by_ t.net.stops.length) := by show _ = _; unfold rbF; rw [HR.out]; rfl
      rw [HR.out, HR2.out]
      have HO := Lib.hid hO
      have HLin := Lib.hid (eaL_in hok)
      have HLn := Lib.hid (eaL_len t ch frm at_ t.net.stops.length)
      have h8 : t.net.stops.length ≤ 8 := hok.1.1.1.2.1
      clear he hO hok HEA
      generalize eaL t ch frm at_ t.net.stops.length = l at *
      go_enter Try.func36, Try.ntmps36
      go_wp2_with fail
      rw [← HWA.out]
      go_at_call 24
      refine (HF.out _ hba).mono ?_
      rintro e w1 ⟨⟨v', rfl, HAL⟩, hb⟩
      replace HAL := Lib.hid HAL
      rw [HLn.out] at HAL
      have HB1 : Hid (Below w.heap.size w w1) := hba.trans (hb.mono hba.size)
      have HO1 := Lib.hid (own_later HO.out hb)
      have hz1' : w.heap.size + 2 ≤ wa.heap.size := hza
      have hz2' : wa.heap.size ≤ w1.heap.size := hb.size
      clear hb hba p0 p1 p2 hza HWA HO
      have HSh := Lib.hid (own_shape HAL.out)
      obtain ⟨av, ac, rfl⟩ := HSh.out
      go_wp2_with (go_at_call 105; refine (HT.out _).mono ?_; rintro e w4 ⟨rfl, rfl⟩)
      go_loopw [12, 36] (fun o q wr => ∃ n : Nat, n ≤ t.net.stops.length ∧ q = .int .i64 n ∧ Hid (wr.ownsRow (w.heap.size + 1) 3 1 o (rbL l by_ n).length (ints (rbL l by_ n))) ∧ Hid (∀ g, o.ownBlock = some g → g = w.heap.size + 1 ∨ w1.heap.size ≤ g) ∧ Hid (w1.grownBy wr (some (w.heap.size + 1)))) (fun _ q _ => t.net.stops.length - (RowKit.intOf q).toNat)
      case atStart => exact ⟨0, Nat.zero_le _, rfl, HO1.out, fun g hg => .inl (by simpa [Value.ownBlock] using hg.symm), World.grownBy.refl _ _⟩
      case round =>
        obtain ⟨n, hn, rfl, HOwn, HLoc, HG2⟩ := hrel
        obtain ⟨oa, oc, rfl⟩ := own_shape HOwn.out
        by_cases hlt : n < t.net.stops.length
        · have hn1 : (n : Int) < (t.net.stops.length : Int) := by omega
          have hal := HAL.out.lt
          have har := gr_own HG2.out HAL.out (by intro e; have := (hal _ e).1; omega)
          have hgz := HG2.out.size
          have hnl := rbL_len l by_ n
          obtain ⟨ga, rfl, -, -, hca⟩ := ownI_at har (by omega) HLn.out
          have hx := hca n hlt
          have HIn := HLin.out n
          obtain ⟨x, HX⟩ : ∃ x, Hid (l.getD n 0 = x) := ⟨_, rfl⟩
          rw [HX.out] at hx HIn
          clear hal har hca
          by_cases hy : 0 ≤ x ∧ x ≤ by_
          · have HY := rbL_yes HX.out hy
            obtain ⟨l1, HL1⟩ : ∃ l1, Hid (rbL l by_ (n + 1) = l1) := ⟨_, rfl⟩
            rw [HL1.out] at HY
            have hm : (x == -1) = false := by simp; omega
            have hd : decide (x ≤ by_) = true := decide_eq_true hy.2
            clear HIn
            go_wp2_with (at_builtin; refine wpList_append_own_at _ rfl _ _ 45 rfl (w.heap.size + 1) 3 i0 (.int .i64 0) 1 8 Try.underlying45 hi0 hz0 hz1 hz2 rfl (by decide) _ (rbL l by_ n).length _ rfl (HOwn.out.alloc _) ⟨wr.heap.size, 0, none⟩ 1 1 [.int .i64 (n : Int)] rfl rfl ?c1 ?c2 ?c3 ?c4 ?c5 ?_)
            case c1 => exact one_new _ _
            case c2 => intro u hu; simp at hu; subst hu; rfl
            case c3 => unfold maxLen; omega
            case c4 => omega
            case c5 => simp; have := HB1.out.size; omega
            intro v' w4 hown' hgrow _ hloc
            have HO4 : Hid (w4.ownsRow (w.heap.size + 1) 3 1 v' l1.length (ints l1)) := by
              show w4.ownsRow _ _ _ _ _ _
              rw [HY]; simpa [ints] using hown'
            have HLoc4 : Hid (∀ g, v'.ownBlock = some g → g = w.heap.size + 1 ∨ w1.heap.size ≤ g) := fun g hg => by
              rcases hloc with e | e
              · exact HLoc.out g (by rw [← e]; exact hg)
              · rw [e] at hg; simp at hg; exact .inr (by omega)
            have HG4 : Hid (w1.grownBy w4 (some (w.heap.size + 1))) := by
              refine ⟨hgrow.os.trans HG2.out.os, hgrow.tape.trans HG2.out.tape, hgrow.output.trans HG2.out.output, by have := hgrow.size; simp at this; omega, fun q hq hne => ?_⟩
              have hq3 : q < wr.heap.size := by omega
              rw [hgrow.block q (by simp; omega) (fun e => ?_), ← HG2.out.block q hq hne]
              · exact ((Below.refl wr.heap.size wr).alloc (Nat.le_refl _) _).block q hq3
              · rcases HLoc.out q e.symm with h | h
                · exact hne (by rw [h])
                · omega
            clear hown' hgrow hloc
            go_wp2_with fail
            go_roundw
            case rel => exact ⟨n + 1, by omega, by go_num, (by rw [HL1.out]; exact HO4), HLoc4, HG4⟩
            case measure => simp [RowKit.intOf]; omega
          · have HY := rbL_no HX.out hy
            by_cases hm1 : x = -1
            · subst hm1
              clear HIn
              go_wp2_with fail
              go_roundw
              case rel => exact ⟨n + 1, by omega, by go_num, (by rw [HY]; exact HOwn), HLoc, HG2⟩
              case measure => simp [RowKit.intOf]; omega
            · have hm : (x == -1) = false := by simp [hm1]
              have hd : decide (x ≤ by_) = false := decide_eq_false (by omega)
              clear HIn
              go_wp2_with fail
              go_roundw
              case rel => exact ⟨n + 1, by omega, by go_num, (by rw [HY]; exact HOwn), HLoc, HG2⟩
              case measure => simp [RowKit.intOf]; omega
        · obtain rfl : n = t.net.stops.length := by omega
          have hn1 : ¬ (t.net.stops.length : Int) < (t.net.stops.length : Int) := by omega
          have HBr : Hid (Below w.heap.size w wr) := HB1.out.trans (below_gr HG2.out (by omega) HB1.out.size)
          go_wp2_with fail
          go_ret2
          exact ⟨⟨_, rfl, own_base HOwn.out (Nat.le_succ _)⟩, HBr.out⟩

theorem bothReachedBy (t : TTD) (hf : TTFits t) (hs : TTSmall t) (ch : Int) (w1 : (Lit.int .i64 ch).wf = true) (frm : Int) (w2 : (Lit.int .i64 frm).wf = true) (at_ : Int) (w3 : (Lit.int .i64 at_).wf = true) (by_ : Int) (w4 : (Lit.int .i64 by_).wf = true) : ∃ (r : List Int) (b : Bool), IntsSmall r ∧ ∀ v w, TTAt w v t →
    Calls Try.prog 35 #[v, .int .i64 ch, .int .i64 frm, .int .i64 at_, .int .i64 by_] w (fun e w' => ∃ v', e = .returned (.tuple #[v', .bool b]) ∧ IntsIn w.heap.size w'.heap.size w' v' r ∧ Below w.heap.size w w') ∧
    Calls Try.prog 36 #[v, .int .i64 ch, .int .i64 frm, .int .i64 at_, .int .i64 by_] w (fun e w' => ∃ v', e = .returned (.tuple #[v', .bool b]) ∧ IntsIn w.heap.size w'.heap.size w' v' r ∧ Below w.heap.size w w') :=
  ⟨_, _, rbF_small t ch frm at_ by_, fun v w h => ⟨(specRB_any v t ch frm at_ by_ w h hf hs).mono fun _ _ => st_in, (implRB_any v t ch frm at_ by_ w h hf hs).mono fun _ _ => st_in⟩⟩
end Go.Proofs.Ytniankcjgcackaa

/-
  CONTRACT of spec.ParetoJourneys.
-/
import Derived.Test.YtmcpafflnccfaaaParetoM
import Derived.Test.YtmcpafflnccfaaaMd
namespace Go.Proofs.Ytmcpafflnccfaaa
open Go.RowKit Go.Maps Jrn
set_option linter.unusedVariables false
set_option linter.unusedSimpArgs false

/-- the Pareto journeys, where they are asked of a question that has an answer -/
noncomputable def pjF (t : TTD) (ch frm too at_ : Int) : List (List LegD) := if pairB t ch frm too at_ then (parF (fun n => Jrn.bestF (allLegs (rides t)) ch too n frm at_) 4).1 else []
def PAns (B : Nat) (r : List (List LegD)) (b : Bool) (e : Ending) (w' : World) : Prop := ∃ v', e = .returned (.tuple #[v', .bool b]) ∧ LGrpsIn B w'.heap.size w' v' r
theorem rowLegs_new (w : World) (B : Nat) (hB : B ≤ w.heap.size) : (w.alloc (.cells #[] 30)).ownsRow B 30 1 (.slice (some ⟨w.heap.size, 0, none⟩) 0 0) 0 [] :=
  World.ownsRow_lit (base := B) (e := 30) (size := 1) w #[] 0 hB (by decide) (by simp)

theorem LGrpsOwn.base' {l l' u : Nat} {w : World} {v : Value} {vs : List Value} {xss : List (List LegD)} (h : LGrpsOwn l u w v vs xss) (hl : l' ≤ l) : LGrpsOwn l' w.heap.size w v vs xss :=
  ⟨own_base h.row hl, fun g hg => (h.row.lt g hg).2, h.len, fun i a b => ⟨own_base (h.each i a b).1 hl, fun g hg => ((h.each i a b).1.lt g hg).2⟩, h.out, h.apart⟩

set_option maxRecDepth 100000 in
set_option maxHeartbeats 8000000 in
theorem specPJ_any (v : Value) (t : TTD) (ch frm too at_ : Int) (w : World) (hr : TTAt w v t) (hf : TTFits t) (hs : TTSmall t) :
    Calls Try.prog 37 #[v, .int .i64 ch, .int .i64 frm, .int .i64 too, .int .i64 at_] w fun e w' => PAns w.heap.size (pjF t ch frm too at_) (pairB t ch frm too at_) e w' ∧ Below w.heap.size w w' := by
  have HF := Lib.hid (fun W (hW : Below w.heap.size w W) => l8Pair_any v t ch frm too at_ W (hr.below rfl hW) hf hs)
  have HAr0 := Lib.hid (fun (h : EOk t ch frm at_) n (hn : n ≤ 4) W (hW : Below w.heap.size w W) => l8Arrivals_any v t ch frm at_ n W (hr.below rfl hW) h.1 h.2.1.1 h.2.1.2 h.2.2.1.1 h.2.2.1.2 h.2.2.2.1 (by have := h.2.2.2.2; omega) hn)
  have HFi0 := Lib.hid (fun (h : EOk t ch frm at_) A n (hn : n + 1 ≤ 4) W (hW : Below w.heap.size w W) => l8First_any v t ch frm too at_ A n W (hr.below rfl hW) h.1 h.2.1.1 h.2.1.2 hn)
  obtain ⟨a, c, a', c', b, d, rfl, -, -⟩ := tt_open hr
  clear hr hf hs
  obtain ⟨wa, hwa⟩ : ∃ wa : World, wa = (w.alloc (.cells #[.slice a t.net.stops.length c, .slice a' t.net.lines.length c', .slice b t.trips.length d] 38)).alloc (.cells #[] 30) := ⟨_, rfl⟩
  have p0 : wa.cell? ⟨w.heap.size, 0, none⟩ = some (.slice a t.net.stops.length c) := by rw [hwa]; go_simp
  have p1 : wa.cell? ⟨w.heap.size, 1, none⟩ = some (.slice a' t.net.lines.length c') := by rw [hwa]; go_simp
  have p2 : wa.cell? ⟨w.heap.size, 2, none⟩ = some (.slice b t.trips.length d) := by rw [hwa]; go_simp
  have hba : Below w.heap.size w wa := by rw [hwa]; exact ((Below.refl _ _).alloc (Nat.le_refl _) _).alloc (by simp) _
  have hO : wa.ownsRow (w.heap.size + 1) 30 1 (.slice (some ⟨w.heap.size + 1, 0, none⟩) 0 0) 0 [] := by
    have h := rowLegs_new (w.alloc (.cells #[.slice a t.net.stops.length c, .slice a' t.net.lines.length c', .slice b t.trips.length d] 38)) (w.heap.size + 1) (by simp)
    simp only [World.size_alloc] at h
    rw [hwa]; exact h
  have hza : w.heap.size + 2 ≤ wa.heap.size := by rw [hwa]; simp
  have HWA := Lib.hid hwa
  have HO := Lib.hid hO
  clear hwa hO
  cases hp : pairB t ch frm too at_ with
  | false =>
    rw [hp] at HF
    have HR : Hid (pjF t ch frm too at_ = []) := by show _ = _; unfold pjF; rw [hp]; rfl
    rw [HR.out]
    clear hp HAr0 HFi0
    go_enter Try.func37, Try.ntmps37
    go_wp2_with fail
    rw [← HWA.out]
    go_at_call 51
    refine (HF.out _ hba).mono ?_
    rintro e w1 ⟨rfl, hb⟩
    have HB1 : Hid (Below w.heap.size w w1) := hba.trans (hb.mono hba.size)
    have HO1 := Lib.hid (own_later HO.out hb)
    clear hb hba p0 p1 p2 HO
    go_wp2_with fail
    go_ret2
    exact ⟨⟨_, rfl, [], LGrpsOwn.none (own_base HO1.out (Nat.le_succ _))⟩, HB1.out⟩
  | true =>
    rw [hp] at HF
    obtain ⟨hok, hto, hne⟩ := pairB_iff hp
    obtain ⟨f, hfd⟩ : ∃ f : Nat → Option (List LegD), f = fun n => Jrn.bestF (allLegs (rides t)) ch too n frm at_ := ⟨_, rfl⟩
    have HR : Hid (pjF t ch frm too at_ = (parF f 4).1) := by show _ = _; unfold pjF; rw [hp, hfd]; rfl
    rw [HR.out]
    have HPF : Hid (ParFacts too f) := by show ParFacts too f; rw [hfd]; exact parFacts (rides_ok hok.1) hok.2.1.1 hok.2.2.2.1
    have HX : Hid (∀ n, (arrT t.net.stops.length (rides t) ch frm at_ n).getD too.toNat 0 = endO (f n)) := fun n => by
      rw [arr_eq (rides_ok hok.1) (rides_in hok.1) hok.2.1.1 hok.2.2.1.1 hok.2.2.1.2 hok.2.2.2.1 n hto.1 hto.2, if_neg hne, hfd]
    have HDf : Hid (∀ n b, f n = some b → dfsF (candsF t.net.stops.length (rides t) (endT 0 b)) ch too (endT 0 b) b.length [] frm at_ = some b) := fun n b hb => by
      rw [hfd] at hb
      exact dfs_best (rides_ok hok.1) hok.2.1.1 hok.2.2.2.1 hne (cands := fun A => candsF t.net.stops.length (rides t) A) (fun A => cands_ok (rides_ok hok.1) (rides_in hok.1) A) n hb
    have HAr := Lib.hid (HAr0.out hok)
    have HFi := Lib.hid (HFi0.out hok)
    have HLn := Lib.hid (fun n => arrT_len t.net.stops.length (rides t) ch frm at_ n)
    obtain ⟨q, rfl⟩ := Int.eq_ofNat_of_zero_le hto.1
    have hq : q < t.net.stops.length := by have := hto.2; omega
    have hq1 : (q : Int) < (t.net.stops.length : Int) := by omega
    have hq0 : (0 : Int) ≤ (q : Int) := by omega
    simp only [Int.toNat_natCast] at HX
    clear hp hok hto hne hfd HAr0 HFi0
    obtain ⟨j0, hj0, hy0, hy1, hy2⟩ := info_parts infoLegS
    go_enter Try.func37, Try.ntmps37
    go_wp2_with fail
    rw [← HWA.out]
    go_at_call 51
    refine (HF.out _ hba).mono ?_
    rintro e w1 ⟨rfl, hb⟩
    have HB1 : Hid (Below w.heap.size w w1) := hba.trans (hb.mono hba.size)
    have HO1 := Lib.hid (LGrpsOwn.none (own_later HO.out hb))
    have z0 := bkeep hb p0
    have z1 := bkeep hb p1
    have z2 := bkeep hb p2
    have hz1 : w.heap.size + 2 ≤ w1.heap.size := Nat.le_trans hza hb.size
    clear hb hba p0 p1 p2 HO hza HWA
    go_wp2_with fail
    go_loopw [12, 13, 14] (fun o la p wr => ∃ (k : Nat) (u : Nat) (vs : List Value), k ≤ 4 ∧ p = .int .i64 ((k : Int) + 1) ∧ la = .int .i64 (parF f k).2 ∧ Hid (LGrpsOwn (w.heap.size + 1) u wr o vs (parF f k).1) ∧ wr.cell? ⟨w.heap.size, 0, none⟩ = some (.slice a t.net.stops.length c) ∧ wr.cell? ⟨w.heap.size, 1, none⟩ = some (.slice a' t.net.lines.length c') ∧ wr.cell? ⟨w.heap.size, 2, none⟩ = some (.slice b t.trips.length d) ∧ Hid (Below w.heap.size w wr) ∧ Hid (w.heap.size + 2 ≤ wr.heap.size)) (fun _ _ p _ => 5 - (RowKit.intOf p).toNat)
    case atStart => exact ⟨0, _, [], by omega, by simp, rfl, HO1, z0, z1, z2, HB1, hz1⟩
    case round =>
      clear z0 z1 z2 HB1 HO1 hz1
      obtain ⟨k, u, vs, hk, rfl, rfl, HOwn, p0, p1, p2, HB, HZ⟩ := hrel
      obtain ⟨oa, oc, rfl⟩ := own_shape HOwn.out.row
      by_cases hlt : k < 4
      · have HAk := Lib.hid (HAr.out (k + 1) (by omega))
        push_cast at HAk
        have hk1 : (k : Int) + 1 ≤ 4 := by omega
        go_wp2_with fail
        go_at_call 85
        refine (HAk.out _ HB.out).mono ?_
        rintro e w2 ⟨⟨v', rfl, hown⟩, hb⟩
        have HB2 : Hid (Below w.heap.size w w2) := HB.out.trans (hb.mono HB.out.size)
        have HOw2 := Lib.hid (HOwn.out.keep (w' := w2) (fun g _ hg => hb.block g hg))
        have q0 := bkeep hb p0
        have q1 := bkeep hb p1
        have q2 := bkeep hb p2
        have HZ2 : Hid (w.heap.size + 2 ≤ w2.heap.size) := Nat.le_trans HZ.out hb.size
        obtain ⟨av, ac, rfl⟩ := own_shape hown
        obtain ⟨ga, rfl, -, -, hca⟩ := ownI_at hown (by omega) (HLn.out (k + 1))
        have hx := hca q hq
        rw [HX.out (k + 1)] at hx
        clear hb hown hca HAk p0 p1 p2 HB HOwn HZ
        obtain ⟨lst, HLst⟩ : ∃ lst, Hid ((parF f k).2 = lst) := ⟨_, rfl⟩
        rw [HLst.out]
        cases hfk : f (k + 1) with
        | none =>
          rw [hfk] at hx
          have hx2 : w2.cell? ⟨ga, q, none⟩ = some (.int .i64 (-1)) := hx
          have HP := Lib.hid (parF_none hfk)
          clear hx hfk
          go_wp2_with fail
          go_roundw
          case rel => exact ⟨k + 1, u, vs, by omega, by go_num, by rw [HP.out, HLst.out], (by show LGrpsOwn _ _ _ _ _ _; rw [HP.out]; exact HOw2.out), q0, q1, q2, HB2, HZ2⟩
          case measure => simp [RowKit.intOf]; omega
        | some bk =>
          rw [hfk] at hx
          have hx2 : w2.cell? ⟨ga, q, none⟩ = some (.int .i64 (endT 0 bk)) := hx
          have hpos := HPF.out.pos _ _ hfk
          have HBk := Lib.hid hfk
          obtain ⟨X, HXe⟩ : ∃ X, Hid (endT 0 bk = X) := ⟨_, rfl⟩
          rw [HXe.out] at hx2 hpos
          clear hx hfk
          by_cases hy : lst < 0 ∨ X < lst
          · have hyp : (parF f k).2 < 0 ∨ endT 0 bk < (parF f k).2 := by rw [HLst.out, HXe.out]; exact hy
            have HP := Lib.hid (parF_yes HBk.out hyp)
            have hln := HPF.out.len HBk.out hyp
            have HAp : Hid (∀ (W : World) (l : Nat) (x : Value), LGrpsOwn (w.heap.size + 1) u W (.slice oa (parF f k).1.length oc) vs (parF f k).1 → W.ownsRow l 62 5 x bk.length (legC bk) → ∀ i (h' : i < vs.length) g, vs[i].ownBlock = some g → x.ownBlock ≠ some g) := fun W l x h1 h2 => HPF.out.apart HBk.out hyp h1 h2
            have HF1 := Lib.hid (HFi.out X k (by omega))
            have hdf := HDf.out _ _ HBk.out
            rw [hln, HXe.out] at hdf
            rw [hdf] at HF1
            have HLen : Hid ((parF f k).1.length ≤ k) := parF_len f k
            clear hyp hln hdf
            rcases hy with hy | hy
            · go_wp2_with fail
              go_at_call 86
              refine (HF1.out _ HB2.out).mono ?_
              rintro e w3 ⟨⟨v', rfl, hown⟩, hb⟩
              have hown2 : w3.ownsRow w2.heap.size 62 5 v' bk.length (legC bk) := hown
              obtain ⟨va, vc, rfl⟩ := own_shape hown2
              have HB3 : Hid (Below w.heap.size w w3) := HB2.out.trans (hb.mono HB2.out.size)
              have HOw3 := Lib.hid (HOw2.out.keep (w' := w3) (fun g _ hg => hb.block g hg))
              have HX3 := Lib.hid (own_base hown2 (Nat.le_trans (Nat.le_succ _) HZ2.out))
              have HZ3 : Hid (w.heap.size + 2 ≤ w3.heap.size) := Nat.le_trans HZ2.out hb.size
              have r0 := bkeep hb q0
              have r1 := bkeep hb q1
              have r2 := bkeep hb q2
              clear hb hown hown2 q0 q1 q2 hx2 HF1 HOw2 HB2 HZ2
              go_wp2_with (at_builtin; refine wpList_append_own_at _ rfl _ _ 70 rfl (w.heap.size + 1) 30 j0 (.slice none 0 0) 1 24 Try.underlying70 hj0 hy0 hy1 hy2 rfl (by decide) _ (parF f k).1.length _ rfl (HOw3.out.row.alloc _) ⟨w3.heap.size, 0, none⟩ 1 1 [.slice va bk.length vc] rfl rfl ?c1 ?c2 ?c3 ?c4 ?c5 ?_)
              try (case c1 => exact one_new _ _)
              try (case c2 => intro u hu; simp at hu; subst hu; rfl)
              case c3 => (have := HLen.out; unfold maxLen; omega)
              case c4 => have := HLen.out; omega
              case c5 => (have := HZ3.out; first | omega | (simp; omega))
              intro v' w4 hown' hgrow _ hat
              have hg1 : ∀ g, Value.ownBlock (.slice oa (parF f k).1.length oc) = some g → w.heap.size + 1 ≤ g := fun g hg => (HOw3.out.row.lt g hg).1
              have HOw4 : Hid (LGrpsOwn (w.heap.size + 1) w4.heap.size w4 v' (vs ++ [.slice va bk.length vc]) (parF f (k + 1)).1) := by
                show LGrpsOwn _ _ _ _ _ _
                rw [HP.out]
                exact LGrpsOwn.snoc2 HOw3.out HX3.out (types_apart (by decide) HX3.out HOw3.out.row) (HAp.out w3 _ _ HOw3.out HX3.out) ((Below.refl _ _).alloc (Nat.le_refl _) _) hgrow hown' (by simpa using hat)
              have z0 : w4.cell? ⟨w.heap.size, 0, none⟩ = some (.slice a t.net.stops.length c) := hgrow.cell (acell r0 _) (fun e => by have := hg1 w.heap.size e.symm; omega)
              have z1 : w4.cell? ⟨w.heap.size, 1, none⟩ = some (.slice a' t.net.lines.length c') := hgrow.cell (acell r1 _) (fun e => by have := hg1 w.heap.size e.symm; omega)
              have z2 : w4.cell? ⟨w.heap.size, 2, none⟩ = some (.slice b t.trips.length d) := hgrow.cell (acell r2 _) (fun e => by have := hg1 w.heap.size e.symm; omega)
              have HB4 : Hid (Below w.heap.size w w4) := (HB3.out.alloc HB3.out.size _).grown hgrow (by have := HB3.out.size; simp; omega) (fun g hg => by have := hg1 g hg; omega)
              have HZ4 : Hid (w.heap.size + 2 ≤ w4.heap.size) := by have h1 := hgrow.size; have h2 := HZ3.out; rw [World.size_alloc] at h1; show _ ≤ _; omega
              clear hown' hgrow hat hg1 r0 r1 r2 HB3 HZ3 HOw3 HX3
              go_wp2_with fail
              go_roundw
              case rel => exact ⟨k + 1, _, _, by omega, by go_num, by rw [HP.out, HXe.out], HOw4, z0, z1, z2, HB4, HZ4⟩
              case measure => simp [RowKit.intOf]; omega
            · have hl0 : ¬ lst < 0 := by omega
              go_wp2_with fail
              go_at_call 86
              refine (HF1.out _ HB2.out).mono ?_
              rintro e w3 ⟨⟨v', rfl, hown⟩, hb⟩
              have hown2 : w3.ownsRow w2.heap.size 62 5 v' bk.length (legC bk) := hown
              obtain ⟨va, vc, rfl⟩ := own_shape hown2
              have HB3 : Hid (Below w.heap.size w w3) := HB2.out.trans (hb.mono HB2.out.size)
              have HOw3 := Lib.hid (HOw2.out.keep (w' := w3) (fun g _ hg => hb.block g hg))
              have HX3 := Lib.hid (own_base hown2 (Nat.le_trans (Nat.le_succ _) HZ2.out))
              have HZ3 : Hid (w.heap.size + 2 ≤ w3.heap.size) := Nat.le_trans HZ2.out hb.size
              have r0 := bkeep hb q0
              have r1 := bkeep hb q1
              have r2 := bkeep hb q2
              clear hb hown hown2 q0 q1 q2 hx2 HF1 HOw2 HB2 HZ2
              go_wp2_with (at_builtin; refine wpList_append_own_at _ rfl _ _ 70 rfl (w.heap.size + 1) 30 j0 (.slice none 0 0) 1 24 Try.underlying70 hj0 hy0 hy1 hy2 rfl (by decide) _ (parF f k).1.length _ rfl (HOw3.out.row.alloc _) ⟨w3.heap.size, 0, none⟩ 1 1 [.slice va bk.length vc] rfl rfl ?c1 ?c2 ?c3 ?c4 ?c5 ?_)
              try (case c1 => exact one_new _ _)
              try (case c2 => intro u hu; simp at hu; subst hu; rfl)
              case c3 => (have := HLen.out; unfold maxLen; omega)
              case c4 => have := HLen.out; omega
              case c5 => (have := HZ3.out; first | omega | (simp; omega))
              intro v' w4 hown' hgrow _ hat
              have hg1 : ∀ g, Value.ownBlock (.slice oa (parF f k).1.length oc) = some g → w.heap.size + 1 ≤ g := fun g hg => (HOw3.out.row.lt g hg).1
              have HOw4 : Hid (LGrpsOwn (w.heap.size + 1) w4.heap.size w4 v' (vs ++ [.slice va bk.length vc]) (parF f (k + 1)).1) := by
                show LGrpsOwn _ _ _ _ _ _
                rw [HP.out]
                exact LGrpsOwn.snoc2 HOw3.out HX3.out (types_apart (by decide) HX3.out HOw3.out.row) (HAp.out w3 _ _ HOw3.out HX3.out) ((Below.refl _ _).alloc (Nat.le_refl _) _) hgrow hown' (by simpa using hat)
              have z0 : w4.cell? ⟨w.heap.size, 0, none⟩ = some (.slice a t.net.stops.length c) := hgrow.cell (acell r0 _) (fun e => by have := hg1 w.heap.size e.symm; omega)
              have z1 : w4.cell? ⟨w.heap.size, 1, none⟩ = some (.slice a' t.net.lines.length c') := hgrow.cell (acell r1 _) (fun e => by have := hg1 w.heap.size e.symm; omega)
              have z2 : w4.cell? ⟨w.heap.size, 2, none⟩ = some (.slice b t.trips.length d) := hgrow.cell (acell r2 _) (fun e => by have := hg1 w.heap.size e.symm; omega)
              have HB4 : Hid (Below w.heap.size w w4) := (HB3.out.alloc HB3.out.size _).grown hgrow (by have := HB3.out.size; simp; omega) (fun g hg => by have := hg1 g hg; omega)
              have HZ4 : Hid (w.heap.size + 2 ≤ w4.heap.size) := by have h1 := hgrow.size; have h2 := HZ3.out; rw [World.size_alloc] at h1; show _ ≤ _; omega
              clear hown' hgrow hat hg1 r0 r1 r2 HB3 HZ3 HOw3 HX3
              go_wp2_with fail
              go_roundw
              case rel => exact ⟨k + 1, _, _, by omega, by go_num, by rw [HP.out, HXe.out], HOw4, z0, z1, z2, HB4, HZ4⟩
              case measure => simp [RowKit.intOf]; omega
          · have hyp : ¬ ((parF f k).2 < 0 ∨ endT 0 bk < (parF f k).2) := by rw [HLst.out, HXe.out]; exact hy
            have HP := Lib.hid (parF_no HBk.out hyp)
            have hl0 : ¬ lst < 0 := fun h => hy (.inl h)
            have hl1 : ¬ X < lst := fun h => hy (.inr h)
            clear hyp hy
            go_wp2_with fail
            go_roundw
            case rel => exact ⟨k + 1, u, vs, by omega, by go_num, by rw [HP.out, HLst.out], (by show LGrpsOwn _ _ _ _ _ _; rw [HP.out]; exact HOw2.out), q0, q1, q2, HB2, HZ2⟩
            case measure => simp [RowKit.intOf]; omega
      · obtain rfl : k = 4 := by omega
        have hk1 : ¬ ((4 : Nat) : Int) + 1 ≤ 4 := by decide
        go_wp2_with fail
        go_ret2
        exact ⟨⟨_, rfl, vs, LGrpsOwn.base' HOwn.out (Nat.le_succ _)⟩, HB.out⟩
end Go.Proofs.Ytmcpafflnccfaaa

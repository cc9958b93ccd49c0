/-
  CONTRACTS of impl.earlierJourneys, impl.ParetoJourneys; both sides.
-/
import Derived.Test.YtmcpafflnccfaaaParetoS
import Derived.Test.YtmcpafflnccfaaaEarliestJI
namespace Go.Proofs.Ytmcpafflnccfaaa
open Go.RowKit Go.Maps Jrn
set_option linter.unusedVariables false
set_option linter.unusedSimpArgs false

theorem JEnv.side {b bL : Nat} {L : List LegD} {ch too : Int} {n g : Nat} {w w' : World} (h : JEnv b bL L ch too n w) (hg : w.grownBy w' (some g)) (hgb : b + 7 ≤ g) {l m : Nat} {v : Value} {vs : List Value} (hv : w.ownsRow l 30 1 v m vs) (hvg : v.ownBlock = some g) : JEnv b bL L ch too n w' := by
  obtain ⟨f, p, h1, h2⟩ := h.memo
  obtain ⟨hl, lo, hlm⟩ := h.map
  refine ⟨gr_cell hg h.cL (by show b ≠ g; omega), gr_cell hg h.cC (by show b + 1 ≠ g; omega), gr_cell hg h.cT (by show b + 2 ≠ g; omega), gr_cell hg h.cM (by show b + 4 ≠ g; omega), gr_cell hg h.cF (by show b + 5 ≠ g; omega), gr_cell hg h.cB (by show b + 6 ≠ g; omega), Nat.le_trans h.size hg.size, ⟨hl, lo, hlm.gr hg (by show b ≤ g; omega) (by omega)⟩, f, p, h1.kept hg (by simp; omega), fun s t k kl hk hp => ?_⟩
  have hj := h2 s t k kl hk hp
  cases ho : Jrn.bestF L ch too k s t with
  | none => rw [ho] at hj; exact hj
  | some c =>
    rw [ho] at hj
    exact ⟨hj.1, gr_own hg hj.2 (types_apart (by decide) hv hj.2 g hvg)⟩
theorem own_some {w : World} {B n : Nat} {e : TypeId} {v : Value} {vs : List Value} (h : w.ownsRow B e 1 v n vs) (hn : 0 < n) : ∃ g cap, v = .slice (some ⟨g, 0, none⟩) n cap := by
  rcases h.2 with ⟨hv, h0⟩ | ⟨g, cap, cur, hv, _⟩
  · omega
  · exact ⟨g, cap, hv⟩

set_option maxRecDepth 100000 in
set_option maxHeartbeats 8000000 in
theorem earlierJ_any {b bL : Nat} {L : List LegD} {ch too : Int} (hok : LegsOk L ch too) (w : World) (frm at_ : Int) (n0 : Nat) (hE : JEnv b bL L ch too n0 w) (hs : (Lit.int .i64 frm).wf = true) (ht : (Lit.int .i64 at_).wf = true) (hn : n0 + 4 * cst 4 ≤ 100000000000)
    (f : Nat → Option (List LegD)) (hf : ∀ n, Jrn.bestF L ch too n frm at_ = f n) (hp : ParFacts too f) :
    Calls Try.prog 87 #[.func (.func fnFind) #[] #[.pointer (some ⟨b + 4, 0, none⟩), .pointer (some ⟨b, 0, none⟩), .pointer (some ⟨b + 6, 0, none⟩)], .int .i64 frm, .int .i64 at_] w fun e w' => (∃ v', e = .returned v' ∧ LGrpsIn (b + 7) w'.heap.size w' v' (parF f 4).1) ∧ JEnv b bL L ch too (n0 + 4 * cst 4) w' ∧ w.grownBy w' (some (b + 3)) := by
  have hz := hE.size
  have HFind := Lib.hid (fun k (hk : k ≤ 4) n W (hE : JEnv b bL L ch too n W) hn => find_any hok k hk W frm at_ n hE hs ht hn)
  have HCs : Hid (∀ k, k ≤ 4 → cst k ≤ cst 4) := by
    intro k hk
    have h : k = 0 ∨ k = 1 ∨ k = 2 ∨ k = 3 ∨ k = 4 := by omega
    rcases h with rfl | rfl | rfl | rfl | rfl <;> decide
  have hO : (w.alloc (.cells #[] 30)).ownsRow (b + 7) 30 1 (.slice (some ⟨w.heap.size, 0, none⟩) 0 0) 0 [] := rowLegs_new w (b + 7) hz
  have hba : Below w.heap.size w (w.alloc (.cells #[] 30)) := (Below.refl _ _).alloc (Nat.le_refl _) _
  have HE0 := Lib.hid (hE.later hba)
  have HO0 := Lib.hid (LGrpsOwn.none hO)
  have HG0 : Hid (w.grownBy (w.alloc (.cells #[] 30)) (some (b + 3))) := gr_below hba _
  have HPF := Lib.hid hp
  have HFf := Lib.hid hf
  have hnen := neNil
  have heqn := eqNil
  have HNb := Lib.hid hn
  clear hE hO hba hp hf hs ht hok hn
  unfold fnFind bV at HFind
  obtain ⟨j0, hj0, hy0, hy1, hy2⟩ := info_parts infoLegS
  unfold fnFind
  go_enter Try.func87, Try.ntmps87
  go_wp2_with fail
  go_loopw [7, 8] (fun o p wr => ∃ (k : Nat) (u : Nat) (vs : List Value) (ga oc : Nat), k ≤ 4 ∧ w.heap.size ≤ ga ∧ p = .int .i64 ((k : Int) + 1) ∧ o = .slice (some ⟨ga, 0, none⟩) (parF f k).1.length oc ∧ Hid (LGrpsOwn (b + 7) u wr o vs (parF f k).1) ∧ Hid (JEnv b bL L ch too (n0 + k * cst 4) wr) ∧ Hid (w.grownBy wr (some (b + 3)))) (fun _ p _ => 5 - (RowKit.intOf p).toNat)
  case atStart => exact ⟨0, _, [], w.heap.size, 0, by omega, Nat.le_refl _, by simp, rfl, HO0, (by show JEnv _ _ _ _ _ _ _; exact HE0.out.mono (by omega)), HG0⟩
  case round =>
    clear HO0 HE0 HG0
    obtain ⟨wo, rfl⟩ : ∃ wo : World, wo = wr := ⟨_, rfl⟩
    obtain ⟨k, u, vs, ga, oc, hk, hga0, rfl, rfl, HOwn, HE, HG⟩ := hrel
    by_cases hlt : k < 4
    · have hk1 : (k : Int) + 1 ≤ 4 := by omega
      have HMul : Hid (k * cst 4 + cst 4 = (k + 1) * cst 4 ∧ (k + 1) * cst 4 ≤ 4 * cst 4) := ⟨(Nat.succ_mul _ _).symm, Nat.mul_le_mul_right _ (by omega)⟩
      have HFd := Lib.hid (HFind.out (k + 1) (by omega) (n0 + k * cst 4) wo HE.out (by have h1 := HMul.out; have h2 := HCs.out (k + 1) (by omega); have h3 := HNb.out; omega))
      have hcF := HE.out.cF
      have hzE := HE.out.size
      rw [HFf.out (k + 1)] at HFd
      push_cast at HFd
      have HLen : Hid ((parF f k).1.length ≤ k) := parF_len f k
      unfold fnFind at hcF
      go_wp2_with fail
      go_at_call 100
      refine HFd.out.mono ?_
      rintro e w5 ⟨vJ, rfl, hj, hE5, hg5⟩
      have HE5 : Hid (JEnv b bL L ch too (n0 + (k + 1) * cst 4) w5) := hE5.mono (by have h1 := HMul.out; have h2 := HCs.out (k + 1) (by omega); omega)
      have HG5 := Lib.hid (gr_trans HG.out hg5)
      have HO5 := Lib.hid (HOwn.out.keep (w' := w5) (fun g h1 h2 => hg5.block g h2 (by simp; omega)))
      have hz5 : b + 7 ≤ w5.heap.size := Nat.le_trans hzE hg5.size
      clear hE5 hg5 HE HG HOwn HFd hcF hzE
      cases hfk : f (k + 1) with
      | none =>
        rw [hfk] at hj
        have hv : vJ = .slice none 0 0 := hj
        subst hv
        have HP := Lib.hid (parF_none hfk)
        clear hj hfk
        go_wp2_with fail
        go_roundw
        case rel => exact ⟨k + 1, u, vs, ga, oc, by omega, hga0, by go_num, by rw [HP.out], (by show LGrpsOwn _ _ _ _ _ _; rw [HP.out]; exact HO5.out), HE5, HG5⟩
        case measure => simp [RowKit.intOf]; omega
      | some bk =>
        rw [hfk] at hj
        obtain ⟨⟨gj, cap, rfl⟩, how⟩ := hj
        have HX := Lib.hid how
        have HBk := Lib.hid hfk
        have hne := (HPF.out.thru _ _ hfk).2.1
        have hlk := (HPF.out.thru _ _ hfk).2.2
        have hl0 : 0 < bk.length := List.length_pos_iff.2 hne
        have HEb := Lib.hid (fun W (hW : Below w5.heap.size w5 W) => journeyEnd_any (.slice (some ⟨gj, 0, none⟩) bk.length cap) bk W ((legsAt_own how).below rfl hW) hl0 (by omega))
        rw [← endT_last bk 0 hne] at HEb
        clear how hfk hne
        obtain ⟨X, HXe⟩ : ∃ X, Hid (endT 0 bk = X) := ⟨_, rfl⟩
        rw [HXe.out] at HEb
        rcases parF_last f HPF.out.pos k with ⟨hR, hA⟩ | ⟨xs, bl, hR, hA, hA0⟩
        · have hyp : (parF f k).2 < 0 ∨ endT 0 bk < (parF f k).2 := .inl (by omega)
          have hRl : (parF f k).1.length = 0 := by rw [hR]; rfl
          have HP := Lib.hid (parF_yes HBk.out hyp)
          have HAp := Lib.hid (HPF.out.apart HBk.out hyp HO5.out HX.out)
          have hd0 : decide ((-1 : Int) < 0) = true := by decide
          have HRl := Lib.hid hRl
          obtain ⟨m, Hm⟩ : ∃ m, Hid ((parF f k).1.length = m) := ⟨_, rfl⟩
          have HRw : Hid (w5.ownsRow (b + 7) 30 1 (.slice (some ⟨ga, 0, none⟩) m oc) m vs) := by have h := HO5.out.row; rw [Hm.out] at h; exact h
          have hm0 : m = 0 := by rw [← Hm.out]; exact hRl
          rw [Hm.out]
          clear hyp hR hA hRl
          subst hm0
          go_wp2_with fail
          go_quiet (fail)
          obtain ⟨w6, hw6⟩ : ∃ w6 : World, w6 = w5.drewN nq := ⟨_, rfl⟩
          have hb6 : Below w5.heap.size w5 w6 := by rw [hw6]; exact Dr.below ⟨_, rfl⟩
          rw [← hw6]
          have HO6 := Lib.hid (HO5.out.keep (w' := w6) (fun g _ hg => hb6.block g hg))
          have HX6 := Lib.hid (own_later HX.out hb6)
          have HE6 := Lib.hid (HE5.out.later hb6)
          have HG6 := Lib.hid (gr_trans HG5.out (gr_below hb6 _))
          have HRw6 := Lib.hid (own_later HRw.out hb6)
          have hz6 : b + 7 ≤ w6.heap.size := Nat.le_trans hz5 hb6.size
          clear hw6 hb6 HO5 HX HE5 HG5 HRw
          go_wp2_with (at_builtin; refine wpList_append_own_at _ rfl _ _ 70 rfl (b + 7) 30 j0 (.slice none 0 0) 1 24 Try.underlying70 hj0 hy0 hy1 hy2 rfl (by decide) _ 0 _ rfl (HRw6.out.alloc _) ⟨w6.heap.size, 0, none⟩ 1 1 [.slice (some ⟨gj, 0, none⟩) bk.length cap] rfl rfl ?c1 ?c2 ?c3 ?c4 ?c5 ?_)
          try (case c1 => exact one_new _ _)
          try (case c2 => intro u hu; simp at hu; subst hu; rfl)
          case c3 => (have := HLen.out; unfold maxLen; omega)
          case c4 => have := HLen.out; omega
          case c5 => first | omega | (simp; omega)
          intro v' w7 hown' hgrow _ hat
          have HO7 : Hid (LGrpsOwn (b + 7) w7.heap.size w7 v' (vs ++ [.slice (some ⟨gj, 0, none⟩) bk.length cap]) (parF f (k + 1)).1) := by
            show LGrpsOwn _ _ _ _ _ _
            rw [HP.out]
            exact LGrpsOwn.snoc2 HO6.out HX6.out (types_apart (by decide) HX6.out HO6.out.row) HAp.out ((Below.refl _ _).alloc (Nat.le_refl _) _) hgrow (by rw [HRl.out]; exact hown') (by rcases hat with e | e; exact .inl e; exact .inr (by simpa using e))
          have HE7 : Hid (JEnv b bL L ch too (n0 + (k + 1) * cst 4) w7) := (HE6.out.later ((Below.refl _ _).alloc (Nat.le_refl _) (.cells #[.slice (some ⟨gj, 0, none⟩) bk.length cap] 30))).side hgrow (HRw6.out.lt ga rfl).1 (HRw6.out.alloc _) rfl
          have HG7 : Hid (w.grownBy w7 (some (b + 3))) := ⟨hgrow.os.trans HG6.out.os, hgrow.tape.trans HG6.out.tape, hgrow.output.trans HG6.out.output, by have h1 := hgrow.size; have h2 := HG6.out.size; rw [World.size_alloc] at h1; omega, fun q hq hne => (hgrow.block q (by have h2 := HG6.out.size; rw [World.size_alloc]; omega) (by show some q ≠ some ga; intro e; simp at e; omega)).trans ((Below.heap_alloc _ _ _ (by have h2 := HG6.out.size; omega)).trans (HG6.out.block q hq hne))⟩
          obtain ⟨g9, c9, hv9⟩ := own_some HO7.out.row (by rw [HP.out]; simp)
          have hga9 : w.heap.size ≤ g9 := by
            have h2 := HG6.out.size
            rw [hv9] at hat
            rcases hat with e | e
            · have : g9 = ga := by simpa [Value.ownBlock] using e
              omega
            · have : g9 = w6.heap.size + 1 := by simpa [Value.ownBlock] using e
              omega
          clear hown' hgrow hat HO6 HX6 HE6 HG6 HRw6
          subst hv9
          go_wp2_with fail
          go_roundw
          case rel => exact ⟨k + 1, _, _, g9, c9, by omega, hga9, by go_num, rfl, HO7, HE7, HG7⟩
          case measure => simp [RowKit.intOf]; omega
        · obtain ⟨Y, HYe⟩ : ∃ Y, Hid (endT 0 bl = Y) := ⟨_, rfl⟩
          rw [HYe.out] at hA hA0
          have hpl : (parF f k).1.length = xs.length + 1 := by rw [hR]; simp
          have HPl := Lib.hid hpl
          have hxv : xs.length < vs.length := by have := HO5.out.len; omega
          have hbm := HPF.out.mem k bl (by rw [hR]; simp)
          have hbl0 : 0 < bl.length := List.length_pos_iff.2 hbm.2.1
          have hbl4 : bl.length ≤ 4 := by omega
          have hea := (HO5.out.each xs.length (by omega) hxv).1
          have hex : ((parF f k).1[xs.length]'(by omega)) = bl := by simp [hR]
          rw [hex] at hea
          obtain ⟨xa, xc, hxe⟩ := own_shape hea
          rw [hxe] at hea
          have HEl := Lib.hid (fun W (hW : Below w5.heap.size w5 W) => journeyEnd_any (.slice xa bl.length xc) bl W ((legsAt_own hea).below rfl hW) hbl0 (by omega))
          rw [← endT_last bl 0 hbm.2.1, HYe.out] at HEl
          obtain ⟨g2, rfl⟩ : ∃ g2, xa = some ⟨g2, 0, none⟩ := by
            rcases hea.2 with ⟨hv, h0⟩ | ⟨g, cap, cur, hv, _⟩
            · omega
            · simp at hv; exact ⟨g, hv.1⟩
          have HRw0 : Hid (w5.ownsRow (b + 7) 30 1 (.slice (some ⟨ga, 0, none⟩) (xs.length + 1) oc) (xs.length + 1) vs) := by have h := HO5.out.row; rw [HPl.out] at h; exact h
          obtain ⟨ga0, off0, hgq, hga, hcell⟩ := rowAt_cell (rowAt_own HRw0.out) xs.length hxv
          simp at hgq
          obtain ⟨rfl, rfl⟩ := hgq
          rw [hxe] at hcell
          simp only [Nat.zero_add] at hcell
          have hAv := Lib.hid hA
          obtain ⟨p, hpx⟩ : ∃ p, xs.length = p := ⟨_, rfl⟩
          rw [HPl.out, hpx]
          rw [hpx] at HRw0 hcell HPl hpl
          have hp4 : (p : Int) + 1 ≤ 4 := by have := HLen.out; omega
          have hd0 : decide ((p : Int) < 0) = false := decide_eq_false (by omega)
          have hd00 : ¬ (p : Int) < 0 := by omega
          have hw1 : IntKind.i64.wrap ((p : Int) + 1 - 1) = (p : Int) := by rw [IntWalk.i64_in _ (by omega)]; omega
          have hw2 : IntKind.i64.wrap (p : Int) = (p : Int) := IntWalk.i64_in _ (by omega)
          have hpi : (p : Int) < (p : Int) + 1 := by omega
          have hp0 : (0 : Int) ≤ (p : Int) := by omega
          have HRw := HRw0
          clear hpl hex hea hxe hbm hbl0 hga hpx hxv HRw0
          by_cases hy : X < Y
          · have hyp : (parF f k).2 < 0 ∨ endT 0 bk < (parF f k).2 := .inr (by rw [hAv.out, HXe.out]; exact hy)
            have HP := Lib.hid (parF_yes HBk.out hyp)
            have HAp := Lib.hid (HPF.out.apart HBk.out hyp HO5.out HX.out)
            have hdy : decide (X < Y) = true := decide_eq_true hy
            clear hyp hA hR hA0
            go_wp2_with fail
            go_quiet ((first | (go_at_call_of 79 gj; exact quietL (HEb.out _ (Dr.below ⟨_, rfl⟩))) | (go_at_call_of 79 g2; exact quietL (HEl.out _ (Dr.below ⟨_, rfl⟩)))))
            obtain ⟨w6, hw6⟩ : ∃ w6 : World, w6 = w5.drewN nq := ⟨_, rfl⟩
            have hb6 : Below w5.heap.size w5 w6 := by rw [hw6]; exact Dr.below ⟨_, rfl⟩
            rw [← hw6]
            have HO6 := Lib.hid (HO5.out.keep (w' := w6) (fun g _ hg => hb6.block g hg))
            have HX6 := Lib.hid (own_later HX.out hb6)
            have HE6 := Lib.hid (HE5.out.later hb6)
            have HG6 := Lib.hid (gr_trans HG5.out (gr_below hb6 _))
            have HRw6 := Lib.hid (own_later HRw.out hb6)
            have hz6 : b + 7 ≤ w6.heap.size := Nat.le_trans hz5 hb6.size
            clear hw6 hb6 HO5 HX HE5 HG5 HRw
            go_wp2_with (at_builtin; refine wpList_append_own_at _ rfl _ _ 70 rfl (b + 7) 30 j0 (.slice none 0 0) 1 24 Try.underlying70 hj0 hy0 hy1 hy2 rfl (by decide) _ (p + 1) _ rfl (HRw6.out.alloc _) ⟨w6.heap.size, 0, none⟩ 1 1 [.slice (some ⟨gj, 0, none⟩) bk.length cap] rfl rfl ?c1 ?c2 ?c3 ?c4 ?c5 ?_)
            try (case c1 => exact one_new _ _)
            try (case c2 => intro u hu; simp at hu; subst hu; rfl)
            case c3 => (have := HLen.out; unfold maxLen; omega)
            case c4 => have := HLen.out; omega
            case c5 => first | omega | (simp; omega)
            intro v' w7 hown' hgrow _ hat
            have HO7 : Hid (LGrpsOwn (b + 7) w7.heap.size w7 v' (vs ++ [.slice (some ⟨gj, 0, none⟩) bk.length cap]) (parF f (k + 1)).1) := by
              show LGrpsOwn _ _ _ _ _ _
              rw [HP.out]
              exact LGrpsOwn.snoc2 HO6.out HX6.out (types_apart (by decide) HX6.out HO6.out.row) HAp.out ((Below.refl _ _).alloc (Nat.le_refl _) _) hgrow (by rw [HPl.out]; exact hown') (by rcases hat with e | e; exact .inl e; exact .inr (by simpa using e))
            have HE7 : Hid (JEnv b bL L ch too (n0 + (k + 1) * cst 4) w7) := (HE6.out.later ((Below.refl _ _).alloc (Nat.le_refl _) (.cells #[.slice (some ⟨gj, 0, none⟩) bk.length cap] 30))).side hgrow (HRw6.out.lt ga rfl).1 (HRw6.out.alloc _) rfl
            have HG7 : Hid (w.grownBy w7 (some (b + 3))) := ⟨hgrow.os.trans HG6.out.os, hgrow.tape.trans HG6.out.tape, hgrow.output.trans HG6.out.output, by have h1 := hgrow.size; have h2 := HG6.out.size; rw [World.size_alloc] at h1; omega, fun q hq hne => (hgrow.block q (by have h2 := HG6.out.size; rw [World.size_alloc]; omega) (by show some q ≠ some ga; intro e; simp at e; omega)).trans ((Below.heap_alloc _ _ _ (by have h2 := HG6.out.size; omega)).trans (HG6.out.block q hq hne))⟩
            obtain ⟨g9, c9, hv9⟩ := own_some HO7.out.row (by rw [HP.out]; simp)
            have hga9 : w.heap.size ≤ g9 := by
              have h2 := HG6.out.size
              rw [hv9] at hat
              rcases hat with e | e
              · have : g9 = ga := by simpa [Value.ownBlock] using e
                omega
              · have : g9 = w6.heap.size + 1 := by simpa [Value.ownBlock] using e
                omega
            clear hown' hgrow hat HO6 HX6 HE6 HG6 HRw6
            subst hv9
            go_wp2_with fail
            go_roundw
            case rel => exact ⟨k + 1, _, _, g9, c9, by omega, hga9, by go_num, rfl, HO7, HE7, HG7⟩
            case measure => simp [RowKit.intOf]; omega
          · have hyp : ¬ ((parF f k).2 < 0 ∨ endT 0 bk < (parF f k).2) := by rw [hAv.out, HXe.out]; omega
            have HP := Lib.hid (parF_no HBk.out hyp)
            have hdy : decide (X < Y) = false := decide_eq_false hy
            clear hyp hA hR hA0
            go_wp2_with fail
            go_quiet ((first | (go_at_call_of 79 gj; exact quietL (HEb.out _ (Dr.below ⟨_, rfl⟩))) | (go_at_call_of 79 g2; exact quietL (HEl.out _ (Dr.below ⟨_, rfl⟩)))))
            go_wp2_with fail
            go_roundw
            case rel => exact ⟨k + 1, u, vs, ga, oc, by omega, hga0, by go_num, by rw [HP.out, HPl.out], (by show LGrpsOwn _ _ _ _ _ _; rw [HP.out, ← HPl.out]; exact HO5.out.keep (fun g _ hg => (Dr.below ⟨_, rfl⟩ : Below w5.heap.size w5 _).block g hg)), HE5.out.later (Dr.below ⟨_, rfl⟩), gr_trans HG5.out (gr_below (Dr.below ⟨_, rfl⟩) _)⟩
            case measure => simp [RowKit.intOf]; omega
    · obtain rfl : k = 4 := by omega
      have hk1 : ¬ ((4 : Nat) : Int) + 1 ≤ 4 := by decide
      go_wp2_with fail
      go_ret
      exact ⟨⟨_, rfl, vs, LGrpsOwn.base' HOwn.out (Nat.le_refl _)⟩, HE.out, HG.out⟩

set_option maxRecDepth 100000 in
set_option maxHeartbeats 4000000 in
theorem implPJ_any (v : Value) (t : TTD) (ch frm too at_ : Int) (w : World) (hr : TTAt w v t) (hf : TTFits t) (hs : TTSmall t) :
    Calls Try.prog 38 #[v, .int .i64 ch, .int .i64 frm, .int .i64 too, .int .i64 at_] w fun e w' => PAns w.heap.size (pjF t ch frm too at_) (pairB t ch frm too at_) e w' ∧ Below w.heap.size w w' := by
  have HF := Lib.hid (fun W (hW : Below w.heap.size w W) => canTravelBetween_any v t ch frm too at_ W (hr.below rfl hW) hf hs)
  have HLB := Lib.hid (fun (hg : TTGood t) W (hW : Below w.heap.size w W) => legsByStop_any v t W (hr.below rfl hW) hg)
  obtain ⟨a, c, a', c', b, d, rfl, -, -⟩ := tt_open hr
  clear hr hf hs
  cases hp : pairB t ch frm too at_ with
  | false =>
    rw [hp] at HF
    have HR : Hid (pjF t ch frm too at_ = []) := by show _ = _; unfold pjF; rw [hp]; rfl
    rw [HR.out]
    clear hp HLB
    go_enter Try.func38, Try.ntmps38
    go_wp2_with fail
    go_at_call 55
    refine (HF.out _ ((Below.refl _ _).alloc (Nat.le_refl _) _)).mono ?_
    rintro e w1 ⟨rfl, hb⟩
    have HB1 : Hid (Below w.heap.size w w1) := ((Below.refl _ _).alloc (Nat.le_refl _) _).trans (hb.mono (by simp))
    clear hb
    go_wp2_with fail
    go_ret2
    exact ⟨⟨.slice (some ⟨w1.heap.size, 0, none⟩) 0 0, rfl, [], LGrpsOwn.none (rowLegs_new w1 _ HB1.out.size)⟩, HB1.out.alloc HB1.out.size _⟩
  | true =>
    rw [hp] at HF
    obtain ⟨⟨hg, hch, hst, hat⟩, hto, hne⟩ := pairB_iff hp
    have HR : Hid (pjF t ch frm too at_ = (parF (fun n => Jrn.bestF (allLegs (rides t)) ch too n frm at_) 4).1) := by show _ = _; unfold pjF; rw [hp]; rfl
    rw [HR.out]
    have HPF : Hid (ParFacts too (fun n => Jrn.bestF (allLegs (rides t)) ch too n frm at_)) := parFacts (rides_ok hg) hch.1 hat.1
    have HL := Lib.hid (HLB.out hg)
    have HOk := Lib.hid (legsOk_of hg hch.1 hch.2 too)
    have h8 := hg.1.1.2.1
    have HWf := Lib.hid (wfI (a := frm) hst.1 (by omega))
    have HWt := Lib.hid (wfI (a := at_) hat.1 (by have := hat.2; omega))
    have HJT := Lib.hid (fun W (lo bL : Nat) (No : Nat → Prop) (h : LegMap lo bL No W (allLegs (rides t))) => journeysTo_any (ch := ch) (too := too) W h)
    clear hp HLB hg hch hst hat hto hne HR
    generalize allLegs (rides t) = L at *
    have HFind := Lib.hid (fun (b bL : Nat) W (hE : JEnv b bL L ch too 0 W) => earlierJ_any HOk.out W frm at_ 0 hE HWf.out HWt.out (by decide) _ (fun _ => rfl) HPF.out)
    generalize parF (fun n => Jrn.bestF L ch too n frm at_) 4 = R at *
    unfold fnFind at HJT
    unfold fnFind at HFind
    go_enter Try.func38, Try.ntmps38
    go_wp2_with fail
    go_at_call 55
    refine (HF.out _ ((Below.refl _ _).alloc (Nat.le_refl _) _)).mono ?_
    rintro e w1 ⟨rfl, hb⟩
    have HB1 : Hid (Below w.heap.size w w1) := ((Below.refl _ _).alloc (Nat.le_refl _) _).trans (hb.mono (by simp))
    have z0 : w1.cell? ⟨w.heap.size, 0, none⟩ = some (.slice a t.net.stops.length c) := bkeep hb (by go_simp)
    have z1 : w1.cell? ⟨w.heap.size, 1, none⟩ = some (.slice a' t.net.lines.length c') := bkeep hb (by go_simp)
    have z2 : w1.cell? ⟨w.heap.size, 2, none⟩ = some (.slice b t.trips.length d) := bkeep hb (by go_simp)
    clear hb
    go_wp2_with fail
    go_at_call 57
    refine (HL.out _ HB1.out).mono ?_
    rintro e w2 ⟨⟨rfl, hlm⟩, hb⟩
    have HB2 : Hid (Below w.heap.size w w2) := HB1.out.trans (hb.mono HB1.out.size)
    have HJ2 := Lib.hid (HJT.out _ _ _ _ hlm)
    clear hb hlm z0 z1 z2
    go_wp2_with fail
    go_at_call 56
    refine HJ2.out.mono ?_
    rintro e w3 ⟨rfl, hE3, hb⟩
    have HB3 : Hid (Below w.heap.size w w3) := HB2.out.trans (hb.mono HB2.out.size)
    have hz2 := HB2.out.size
    have HFd := Lib.hid (HFind.out _ _ w3 hE3)
    clear hb hE3
    go_wp2_with fail
    go_at_call 87
    refine HFd.out.mono ?_
    rintro e w5 ⟨⟨vJ, rfl, hj⟩, -, hg5⟩
    have HB5 : Hid (Below w.heap.size w w5) := HB3.out.trans (below_gr hg5 (by omega) HB3.out.size)
    have HO : Hid (LGrpsIn w.heap.size w5.heap.size w5 vJ R.1) := hj.base (by omega) (Nat.le_refl _)
    obtain ⟨ja, jc, rfl⟩ := LegSS_open hj.at
    clear hg5 hj
    go_wp2_with fail
    go_ret2
    exact ⟨⟨_, rfl, HO.out⟩, HB5.out⟩

theorem pjF_small (t : TTD) (ch frm too at_ : Int) : LGrpsSmall (pjF t ch frm too at_) := by
  unfold pjF
  split
  · rename_i h
    obtain ⟨⟨hg, hch, hst, hat⟩, -, -⟩ := pairB_iff h
    exact parF_small (parFacts (too := too) (rides_ok hg) hch.1 hat.1) 4 (by omega)
  · exact ⟨by simp, by simp [totG, preG]⟩
theorem bothParetoJourneys (t : TTD) (hf : TTFits t) (hs : TTSmall t) (ch : Int) (w1 : (Lit.int .i64 ch).wf = true) (frm : Int) (w2 : (Lit.int .i64 frm).wf = true) (too : Int) (w3 : (Lit.int .i64 too).wf = true) (at_ : Int) (w4 : (Lit.int .i64 at_).wf = true) : ∃ (r : List (List LegD)) (b : Bool), LGrpsSmall r ∧ ∀ v w, TTAt w v t →
    Calls Try.prog 37 #[v, .int .i64 ch, .int .i64 frm, .int .i64 too, .int .i64 at_] w (fun e w' => ∃ v', e = .returned (.tuple #[v', .bool b]) ∧ LGrpsIn w.heap.size w'.heap.size w' v' r ∧ Below w.heap.size w w') ∧
    Calls Try.prog 38 #[v, .int .i64 ch, .int .i64 frm, .int .i64 too, .int .i64 at_] w (fun e w' => ∃ v', e = .returned (.tuple #[v', .bool b]) ∧ LGrpsIn w.heap.size w'.heap.size w' v' r ∧ Below w.heap.size w w') :=
  ⟨_, _, pjF_small t ch frm too at_, fun v w h => ⟨(specPJ_any v t ch frm too at_ w h hf hs).mono fun e w' ⟨⟨v', he, ho⟩, hb⟩ => ⟨v', he, ho, hb⟩, (implPJ_any v t ch frm too at_ w h hf hs).mono fun e w' ⟨⟨v', he, ho⟩, hb⟩ => ⟨v', he, ho, hb⟩⟩⟩
end Go.Proofs.Ytmcpafflnccfaaa

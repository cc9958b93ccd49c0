/-
  CONTRACTS of the closures of impl.journeysTo: the first journey from a stop, a time and a number of legs on.
-/
import Derived.Test.YtmcpafflnccfaaaJrnEnv
import Derived.Test.YtmcpafflnccfaaaWpRun
import Derived.Lib.SliceRun
namespace Go.Proofs.Ytmcpafflnccfaaa
open Go.RowKit Go.Maps Jrn
set_option linter.unusedVariables false
set_option linter.unusedSimpArgs false

/-- what is asked of the legs -/
structure LegsOk (L : List LegD) (ch too : Int) : Prop where
  c0 : 0 ≤ ch
  c1 : ch ≤ 30
  leg : ∀ l ∈ L, (1 ≤ l.trip ∧ l.trip ≤ 999) ∧ (0 ≤ l.frm ∧ l.frm < 8) ∧ (0 ≤ l.dst ∧ l.dst < 8) ∧ (0 ≤ l.dep ∧ l.dep ≤ 2400) ∧ (0 ≤ l.arr ∧ l.arr ≤ 2400) ∧ l.dep < l.arr
  len : L.length ≤ 432
/-- the contract of find with k legs -/
def FindOk (b bL : Nat) (L : List LegD) (ch too : Int) (k : Nat) : Prop :=
  ∀ (w : World) (s t : Int) (n : Nat), JEnv b bL L ch too n w → (Lit.int .i64 s).wf = true → (Lit.int .i64 t).wf = true → n + cst k ≤ 100000000000 →
    Calls Try.prog fnFind #[bV s t (k : Int), .pointer (some ⟨b + 4, 0, none⟩), .pointer (some ⟨b, 0, none⟩), .pointer (some ⟨b + 6, 0, none⟩)] w fun e w' => ∃ v, e = .returned v ∧ JAt (b + 7) w' v (Jrn.bestF L ch too k s t) ∧ JEnv b bL L ch too (n + cst k) w' ∧ w.grownBy w' (some (b + 3))
theorem eqNil (a : Option Addr) (n c : Nat) (W : World) : (binOp .eql 30 (.slice a n c) (.slice none 0 0)).run Try.prog W = .ok (.bool a.isNone) W := Lib.run_eql_slice_nil W _ _ a n c 0 0 Try.underlying30
theorem neNil (a : Option Addr) (n c : Nat) (W : World) : (binOp .neq 30 (.slice a n c) (.slice none 0 0)).run Try.prog W = .ok (.bool (!a.isNone)) W := by
  simp only [binOp]
  simp [Op.equal, Op.maxDepth, Lib.run_equalIn_slice_nil W 9999 _ _ a n c 0 0 Try.underlying30]

set_option maxRecDepth 100000 in
set_option maxHeartbeats 4000000 in
theorem begin_any {b bL : Nat} {L : List LegD} {ch too : Int} (hok : LegsOk L ch too) (k : Nat) (hk : k ≤ 4) (hF : FindOk b bL L ch too k) (w : World) (l : LegD) (n : Nat) (hE : JEnv b bL L ch too n w) (hl : l ∈ L) (hn : n + cst k ≤ 100000000000) :
    Calls Try.prog fnBegin #[legV l, .int .i64 (k : Int), .pointer (some ⟨b + 2, 0, none⟩), .pointer (some ⟨b + 5, 0, none⟩), .pointer (some ⟨b + 1, 0, none⟩)] w fun e w' => ∃ v, e = .returned v ∧ JAt (b + 7) w' v (if l.dst = too then some [l] else (Jrn.bestF L ch too k l.dst (l.arr + ch)).map (l :: ·)) ∧ JEnv b bL L ch too (n + cst k) w' ∧ w.grownBy w' (some (b + 3)) := by
  obtain ⟨hl1, hl2, hl3, hl4, hl5, hl6⟩ := hok.leg l hl
  have hc0 := hok.c0
  have hc1 := hok.c1
  have hsz := hE.size
  have hba : Below w.heap.size w (w.alloc (.cells #[.int .i64 l.trip, .int .i64 l.frm, .int .i64 l.dst, .int .i64 l.dep, .int .i64 l.arr] 62)) := (Below.refl _ _).alloc (Nat.le_refl _) _
  have hEa := hE.later hba
  have q0 := hEa.cT
  have q1 := hEa.cF
  have q2 := hEa.cC
  have hwr : IntKind.i64.wrap (l.arr + ch) = l.arr + ch := IntWalk.i64_in _ (by omega)
  have hwf1 : (Lit.int .i64 l.dst).wf = true := wfI (by omega) (by omega)
  have hwf2 : (Lit.int .i64 (l.arr + ch)).wf = true := wfI (by omega) (by omega)
  unfold fnFind at q1
  by_cases hd : l.dst = too
  · rw [if_pos hd]
    have HE := Lib.hid hEa
    have HBa := Lib.hid hba
    clear hF hE hEa hba hok hl
    subst hd
    unfold legV fnBegin
    go_enter Try.func99, Try.ntmps99
    go_wp2_with fail
    go_ret
    have hal : Below (w.heap.size + 1) (w.alloc (.cells #[.int .i64 l.trip, .int .i64 l.frm, .int .i64 l.dst, .int .i64 l.dep, .int .i64 l.arr] 62)) ((w.alloc (.cells #[.int .i64 l.trip, .int .i64 l.frm, .int .i64 l.dst, .int .i64 l.dep, .int .i64 l.arr] 62)).alloc (.cells #[.int .i64 l.trip, .int .i64 l.frm, .int .i64 l.dst, .int .i64 l.dep, .int .i64 l.arr] 62)) := (Below.refl _ _).alloc (by simp) _
    have h := World.ownsRow_lit (base := b + 7) (e := 62) (size := 5) (w.alloc (.cells #[.int .i64 l.trip, .int .i64 l.frm, .int .i64 l.dst, .int .i64 l.dep, .int .i64 l.arr] 62)) #[.int .i64 l.trip, .int .i64 l.frm, .int .i64 l.dst, .int .i64 l.dep, .int .i64 l.arr] 1 (by simp; omega) (by decide) (by simp)
    exact ⟨_, rfl, ⟨⟨_, _, rfl⟩, by simpa [legC] using h⟩, (HE.out.later (by simpa using hal)).mono (by omega), gr_below (HBa.out.trans (hal.mono (by omega))) _⟩
  · rw [if_neg hd]
    have HFc := Lib.hid (hF _ l.dst (l.arr + ch) n hEa hwf1 hwf2 hn)
    have HBa := Lib.hid hba
    have hnil := eqNil
    clear hF hE hEa hba hok hl hwf1 hwf2
    have hdb : (l.dst == too) = false := by simp [hd]
    unfold legV fnBegin
    unfold bV fnFind at HFc
    go_enter Try.func99, Try.ntmps99
    go_wp2_with fail
    have x0 : (w.alloc (.cells #[.int .i64 l.trip, .int .i64 l.frm, .int .i64 l.dst, .int .i64 l.dep, .int .i64 l.arr] 62)).cell? ⟨w.heap.size, 0, none⟩ = some (.int .i64 l.trip) := by go_simp
    have x1 : (w.alloc (.cells #[.int .i64 l.trip, .int .i64 l.frm, .int .i64 l.dst, .int .i64 l.dep, .int .i64 l.arr] 62)).cell? ⟨w.heap.size, 1, none⟩ = some (.int .i64 l.frm) := by go_simp
    have x2 : (w.alloc (.cells #[.int .i64 l.trip, .int .i64 l.frm, .int .i64 l.dst, .int .i64 l.dep, .int .i64 l.arr] 62)).cell? ⟨w.heap.size, 2, none⟩ = some (.int .i64 l.dst) := by go_simp
    have x3 : (w.alloc (.cells #[.int .i64 l.trip, .int .i64 l.frm, .int .i64 l.dst, .int .i64 l.dep, .int .i64 l.arr] 62)).cell? ⟨w.heap.size, 3, none⟩ = some (.int .i64 l.dep) := by go_simp
    have x4 : (w.alloc (.cells #[.int .i64 l.trip, .int .i64 l.frm, .int .i64 l.dst, .int .i64 l.dep, .int .i64 l.arr] 62)).cell? ⟨w.heap.size, 4, none⟩ = some (.int .i64 l.arr) := by go_simp
    go_at_call 100
    refine HFc.out.mono ?_
    rintro e w2 ⟨v, rfl, hj, hE2, hg2⟩
    have hG2 : w.grownBy w2 (some (b + 3)) := gr_trans (gr_below HBa.out _) hg2
    have HE2 := Lib.hid hE2
    have HG2 := Lib.hid hG2
    have y0 := gr_cell hg2 x0 (by show w.heap.size ≠ b + 3; omega)
    have y1 := gr_cell hg2 x1 (by show w.heap.size ≠ b + 3; omega)
    have y2 := gr_cell hg2 x2 (by show w.heap.size ≠ b + 3; omega)
    have y3 := gr_cell hg2 x3 (by show w.heap.size ≠ b + 3; omega)
    have y4 := gr_cell hg2 x4 (by show w.heap.size ≠ b + 3; omega)
    have hz2 := hg2.size
    simp only [World.size_alloc] at hz2
    cases ho : Jrn.bestF L ch too k l.dst (l.arr + ch) with
    | none =>
      rw [ho] at hj
      have hv : v = .slice none 0 0 := hj
      subst hv
      have HO := Lib.hid ho
      clear hj hE2 hg2 hG2 ho x0 x1 x2 x3 x4
      go_wp2_with fail
      go_ret
      exact ⟨.slice none 0 0, rfl, by rw [HO.out]; rfl, HE2.out, HG2.out⟩
    | some c =>
      rw [ho] at hj
      obtain ⟨⟨g, cap, rfl⟩, how⟩ := hj
      have HO := Lib.hid ho
      have hcl := (best_sound ch too k l.dst (l.arr + ch) c ho).2.2.1
      have hlit := World.ownsRow_lit (base := b + 7) (e := 62) (size := 5) w2 #[.int .i64 l.trip, .int .i64 l.frm, .int .i64 l.dst, .int .i64 l.dep, .int .i64 l.arr] 1 (by omega) (by decide) (by simp)
      have hbl : Below w2.heap.size w2 (w2.alloc (.cells #[.int .i64 l.trip, .int .i64 l.frm, .int .i64 l.dst, .int .i64 l.dep, .int .i64 l.arr] 62)) := (Below.refl _ _).alloc (Nat.le_refl _) _
      obtain ⟨v', w3, hrun, hown3, hg3, hnil3⟩ := run_append_legs (w2.alloc (.cells #[.int .i64 l.trip, .int .i64 l.frm, .int .i64 l.dst, .int .i64 l.dep, .int .i64 l.arr] 62)) (b + 7) 1 (.slice (some ⟨w2.heap.size, 0, none⟩) 1 1) [l] (by simpa [legC] using hlit) g 0 cap c ((legsAt_own how).below rfl hbl) (by omega) (by simp; omega)
      have hb3 : Below w2.heap.size w2 w3 := hbl.grown hg3 (by simp) (fun q hq => by simp [Value.ownBlock] at hq; omega)
      have HE3 := Lib.hid (HE2.out.later hb3)
      have HG3 := Lib.hid (gr_trans hG2 (gr_below hb3 (some (b + 3))))
      have HO3 := Lib.hid hown3
      have hv' : ∃ g cap, v' = .slice (some ⟨g, 0, none⟩) (c.length + 1) cap := by
        obtain ⟨_, h2⟩ := hown3
        rcases h2 with ⟨hv, h0⟩ | ⟨g', cap', cur, hv, _⟩
        · omega
        · exact ⟨g', cap', by rw [hv, Nat.add_comm]⟩
      obtain ⟨g', cap', rfl⟩ := hv'
      clear hE2 hg2 hG2 ho x0 x1 x2 x3 x4 how hlit hbl hg3 hnil3 hb3 hown3
      go_wp2_with (at_builtin; refine wpList_append_run rfl (.tmp 28) (.tmp 29) 30 rfl rfl rfl hrun ?_)
      go_ret
      rw [HO.out]
      refine ⟨_, rfl, ⟨⟨g', cap', rfl⟩, ?_⟩, HE3.out, HG3.out⟩
      have := HO3.out
      rw [show 1 + c.length = c.length + 1 from Nat.add_comm _ _] at this
      exact this

theorem pickJ_none (acc : Option (List LegD)) : pickJ acc none = acc := by cases acc <;> rfl
/-- the candidate of a leg, as beginWith gives it -/
noncomputable def gF (L : List LegD) (ch too : Int) (k : Nat) (l : LegD) : Option (List LegD) := if l.dst = too then some [l] else (Jrn.bestF L ch too k l.dst (l.arr + ch)).map (l :: ·)
theorem cand_late {L : List LegD} {ch too t : Int} {k : Nat} {l : LegD} (h : ¬ l.dep < t) : candJ too t (fun l => Jrn.bestF L ch too k l.dst (l.arr + ch)) l = gF L ch too k l := if_neg h
theorem cand_soon {L : List LegD} {ch too t : Int} {k : Nat} {l : LegD} (h : l.dep < t) : candJ too t (fun l => Jrn.bestF L ch too k l.dst (l.arr + ch)) l = none := if_pos h
theorem gF_len {L : List LegD} {ch too : Int} {k : Nat} {l : LegD} {c : List LegD} (h : gF L ch too k l = some c) : c ≠ [] ∧ c.length ≤ k + 1 := by
  unfold gF at h
  split at h
  · cases h; simp
  · simp only [Option.map_eq_some_iff] at h
    obtain ⟨d, hd, rfl⟩ := h
    have := (best_sound ch too k _ _ d hd).2.2.1
    simp; omega
theorem pick_len {L : List LegD} {ch too t : Int} {k : Nat} {xs : List LegD} {c : List LegD} (h : pickAll (candJ too t (fun l => Jrn.bestF L ch too k l.dst (l.arr + ch))) none xs = some c) : c ≠ [] ∧ c.length ≤ k + 1 := by
  rcases pickAll_from h with h | ⟨x, hx, h⟩
  · cases h
  · unfold candJ at h
    split at h
    · cases h
    · exact gF_len (l := x) h
theorem cst_bd (k : Nat) (hk : k ≤ 4) : cst k ≤ 100000000 := by
  have : k = 0 ∨ k = 1 ∨ k = 2 ∨ k = 3 ∨ k = 4 := by omega
  rcases this with rfl | rfl | rfl | rfl | rfl <;> decide

set_option maxRecDepth 100000 in
set_option maxHeartbeats 8000000 in
theorem find_any {b bL : Nat} {L : List LegD} {ch too : Int} (hok : LegsOk L ch too) : ∀ (k : Nat), k ≤ 4 → FindOk b bL L ch too k := by
  intro k
  induction k with
  | zero =>
    intro _ w s t n hE hs ht hn
    have HE := Lib.hid hE
    clear hE
    unfold fnFind bV
    go_enter Try.func100, Try.ntmps100
    go_wp2_with fail
    go_ret
    have hba : Below w.heap.size w (w.alloc (.cells #[.int .i64 s, .int .i64 t, .int .i64 ((0 : Nat) : Int)] 93)) := (Below.refl _ _).alloc (Nat.le_refl _) _
    exact ⟨.slice none 0 0, rfl, rfl, HE.out.later (by simpa using hba), gr_below (by simpa using hba) _⟩
  | succ k ih =>
    intro hk4 w s t n hE hs ht hn
    have HBeg := Lib.hid (fun (W : World) (l : LegD) (m : Nat) (h : JEnv b bL L ch too m W) (hl : l ∈ L) (hm : m + cst k ≤ 100000000000) => begin_any hok k (by omega) (ih (by omega)) W l m h hl hm)
    have HOk := Lib.hid hok
    clear ih
    have hwk : (Lit.int .i64 ((k + 1 : Nat) : Int)).wf = true := wfI (by omega) (by omega)
    obtain ⟨wa, hwa⟩ : ∃ wa : World, wa = w.alloc (.cells #[.int .i64 s, .int .i64 t, .int .i64 ((k : Int) + 1)] 93) := ⟨_, rfl⟩
    have hba : Below w.heap.size w wa := by rw [hwa]; exact (Below.refl _ _).alloc (Nat.le_refl _) _
    have b0 : wa.cell? ⟨w.heap.size, 0, none⟩ = some (.int .i64 s) := by rw [hwa]; go_simp
    have b1 : wa.cell? ⟨w.heap.size, 1, none⟩ = some (.int .i64 t) := by rw [hwa]; go_simp
    have b2 : wa.cell? ⟨w.heap.size, 2, none⟩ = some (.int .i64 ((k : Int) + 1)) := by rw [hwa]; go_simp
    have hza : wa.heap.size = w.heap.size + 1 := by rw [hwa]; simp
    have HWA := Lib.hid hwa
    have hEa := hE.later hba
    have hsz := hE.size
    obtain ⟨vM, ok, hlkM, hjM⟩ := hEa.lookM hs ht hwk
    unfold bV at hlkM
    push_cast at hlkM
    have HEa := Lib.hid hEa
    have HBa := Lib.hid hba
    have HJM := Lib.hid hjM
    have q4 := hEa.cM
    have q0 := hEa.cL
    have HZa := Lib.hid hza
    obtain ⟨hbl, lo, hlm⟩ := hEa.map
    obtain ⟨vL, hlkL, hown, hno⟩ := hlm.look2 s hs
    have hmem : ∀ l ∈ legsAt L s, l ∈ L := fun l hl => (List.mem_filter.1 hl).1
    have HMem := Lib.hid hmem
    have hll : (legsAt L s).length ≤ 432 := Nat.le_trans (legsAt_len L s) hok.len
    have HBest : Hid (Jrn.bestF L ch too (k + 1) s t = pickAll (candJ too t (fun l => Jrn.bestF L ch too k l.dst (l.arr + ch))) none (legsAt L s)) := rfl
    have hvb : vL.ownBlock ≠ some (b + 3) := fun e => hno _ e (by show b ≤ b + 3; omega)
    have HOwn := Lib.hid hown
    obtain ⟨la, lc, rfl⟩ := own_shape hown
    have hcst : cst (k + 1) = 432 * cst k + 1 := rfl
    have hcb := cst_bd k (by omega)
    have HCst := Lib.hid hcst
    have hn' : n + (432 * cst k + 1) ≤ 100000000000 := by rw [← hcst]; exact hn
    have HVb := Lib.hid hvb
    clear hE hEa hba HWA hjM hlm hown hno hmem hza hok hcst hn hvb
    have HN' := Lib.hid hn'
    have HCb := Lib.hid hcb
    clear hn' hcb hwk
    subst hwa
    unfold fnFind bV
    push_cast
    have hk0 : ¬ (k : Int) + 1 = 0 := by omega
    cases ok with
    | true =>
      have HJ := Lib.hid (HJM.out rfl)
      have HEn := Lib.hid (HEa.out.mono (show n ≤ n + cst (k + 1) from Nat.le_add_right _ _))
      clear HJM HBeg HMem hlkL
      go_enter Try.func100, Try.ntmps100
      go_wp2_with fail
      go_ret
      exact ⟨_, rfl, HJ.out, HEn.out, gr_below HBa.out _⟩
    | false =>
      clear HJM
      have hwk2 : IntKind.i64.wrap (k : Int) = (k : Int) := IntWalk.i64_in _ (by omega)
      have HHs := Lib.hid hs
      have HHt := Lib.hid ht
      clear hs ht
      obtain ⟨ls, hls⟩ : ∃ ls, legsAt L s = ls := ⟨_, rfl⟩
      rw [hls] at hll HBest HOwn HVb HMem hlkL
      have HLs := Lib.hid hls
      clear hls
      go_enter Try.func100, Try.ntmps100
      go_wp2_with fail
      go_loopw [8, 28] (fun f q wr => ∃ m : Nat, m ≤ ls.length ∧ q = .int .i64 m ∧ Hid (JAt (b + 7) wr f (pickAll (candJ too t (fun l => Jrn.bestF L ch too k l.dst (l.arr + ch))) none (ls.take m))) ∧ Hid (JEnv b bL L ch too (n + m * cst k) wr) ∧ Hid (w.grownBy wr (some (b + 3))) ∧ wr.cell? ⟨w.heap.size, 0, none⟩ = some (.int .i64 s) ∧ wr.cell? ⟨w.heap.size, 1, none⟩ = some (.int .i64 t) ∧ wr.cell? ⟨w.heap.size, 2, none⟩ = some (.int .i64 ((k : Int) + 1)) ∧ Hid (wr.ownsRow lo 62 5 (.slice la ls.length lc) ls.length (legC ls))) (fun _ q _ => ls.length - (RowKit.intOf q).toNat)
      case atStart => exact ⟨0, Nat.zero_le _, rfl, rfl, HEa.out.mono (by omega), gr_below HBa.out _, b0, b1, b2, HOwn.out⟩
      case round =>
        clear b0 b1 b2 q4 q0 HOwn HEa HBa HZa
        obtain ⟨wo, rfl⟩ : ∃ wo : World, wo = wr := ⟨_, rfl⟩
        obtain ⟨m, hm, rfl, HJ, HE, HG, b0, b1, b2, HOwn⟩ := hrel
        by_cases hlt : m < ls.length
        · have hat := legsAt_own HOwn.out
          obtain ⟨g, go, rfl, hgb, y0, y1, y2, y3, y4⟩ := leg_at hat m hlt
          have hm1 : (m : Int) < (ls.length : Int) := by omega
          have hlL := HMem.out _ (List.getElem_mem hlt)
          have HTk : Hid (ls.take (m + 1) = ls.take m ++ [ls[m]]) := List.take_succ_eq_append_getElem hlt
          have hsz2 := HE.out.size
          have hww := HG.out.size
          have HMul : Hid (m * cst k + cst k = (m + 1) * cst k ∧ (m + 1) * cst k ≤ 432 * cst k) := ⟨(Nat.succ_mul _ _).symm, Nat.mul_le_mul_right _ (by omega)⟩
          generalize ls[m] = l at *
          have hwb : w.heap.size < wo.heap.size := World.block_lt_of_cell? wo _ b0
          have hbl : Below wo.heap.size wo (wo.alloc (.cells #[.int .i64 l.trip, .int .i64 l.frm, .int .i64 l.dst, .int .i64 l.dep, .int .i64 l.arr] 62)) := (Below.refl _ _).alloc (Nat.le_refl _) _
          have HBl := Lib.hid hbl
          have HEl := Lib.hid (HE.out.later hbl)
          clear hat hbl
          by_cases hdp : l.dep < t
          · have HJn : Hid (pickAll (candJ too t (fun l => Jrn.bestF L ch too k l.dst (l.arr + ch))) none (ls.take (m + 1)) = pickAll (candJ too t (fun l => Jrn.bestF L ch too k l.dst (l.arr + ch))) none (ls.take m)) := by
              show _ = _
              rw [HTk.out, pickAll_snoc, cand_soon hdp, pickJ_none]
            go_wp2_with fail
            go_roundw
            case rel =>
              refine ⟨m + 1, by omega, by go_num, ?_, HEl.out.mono ?_, gr_trans HG.out (gr_below HBl.out _), bkeep HBl.out b0, bkeep HBl.out b1, bkeep HBl.out b2, own_later HOwn.out HBl.out⟩
              · show JAt _ _ _ _
                rw [HJn.out]; exact HJ.out.later HBl.out
              · have := HMul.out.1; omega
            case measure => simp [RowKit.intOf]; omega
          · have HCd : Hid (pickAll (candJ too t (fun l => Jrn.bestF L ch too k l.dst (l.arr + ch))) none (ls.take (m + 1)) = pickJ (pickAll (candJ too t (fun l => Jrn.bestF L ch too k l.dst (l.arr + ch))) none (ls.take m)) (gF L ch too k l)) := by
              show _ = _
              rw [HTk.out, pickAll_snoc, cand_late hdp]
            have HBegL := Lib.hid (HBeg.out _ l (n + m * cst k) HEl.out hlL (by have h1 := HMul.out; have h2 := HN'.out; omega))
            have c0 := bkeep HBl.out b0
            have c1 := bkeep HBl.out b1
            have c2 := bkeep HBl.out b2
            have HOl := Lib.hid (own_later HOwn.out HBl.out)
            have HJl := Lib.hid (HJ.out.later HBl.out)
            unfold legV fnBegin at HBegL
            have hcB := HEl.out.cB
            unfold fnBegin at hcB
            have hnil := eqNil
            have hnen := neNil
            go_wp2_with fail
            go_at_call 99
            refine HBegL.out.mono ?_
            rintro e w2 ⟨vJ, rfl, hj, hE2, hg2⟩
            have hj : JAt (b + 7) w2 vJ (gF L ch too k l) := hj
            have d0 := gr_cell hg2 c0 (by show w.heap.size ≠ b + 3; omega)
            have d1 := gr_cell hg2 c1 (by show w.heap.size ≠ b + 3; omega)
            have d2 := gr_cell hg2 c2 (by show w.heap.size ≠ b + 3; omega)
            have HG2 := Lib.hid (gr_trans (gr_trans HG.out (gr_below HBl.out _)) hg2)
            have HO2 := Lib.hid (gr_own hg2 HOl.out HVb.out)
            have HJ2 := Lib.hid (HJl.out.gr hg2 (by omega))
            have HE2 : Hid (JEnv b bL L ch too (n + (m + 1) * cst k) w2) := hE2.mono (by have := HMul.out.1; omega)
            clear hE2 hg2 b0 b1 b2 c0 c1 c2 y0 y1 y2 y3 y4 hcB HOwn HOl HJl HE HEl HG HJ HBegL
            cases ho : gF L ch too k l with
            | none =>
              rw [ho] at hj
              have hv : vJ = .slice none 0 0 := hj
              subst hv
              have HJn : Hid (pickAll (candJ too t (fun l => Jrn.bestF L ch too k l.dst (l.arr + ch))) none (ls.take (m + 1)) = pickAll (candJ too t (fun l => Jrn.bestF L ch too k l.dst (l.arr + ch))) none (ls.take m)) := by
                show _ = _
                rw [HCd.out, ho, pickJ_none]
              clear hj ho
              go_wp2_with fail
              refine ⟨?_, ?measure⟩
              repeat apply Exists.intro
              refine ⟨?rel, rfl⟩
              case rel =>
                refine ⟨m + 1, by omega, by go_num, ?_, HE2, HG2, d0, d1, d2, HO2⟩
                show JAt _ _ _ _
                rw [HJn.out]; exact HJ2.out
              case measure => simp [RowKit.intOf]; omega
            | some j =>
              rw [ho] at hj
              obtain ⟨hjne, hjlen⟩ := gF_len ho
              have HJj := Lib.hid hj
              obtain ⟨⟨gj, cj, rfl⟩, hownj⟩ := hj
              cases ha : pickAll (candJ too t (fun l => Jrn.bestF L ch too k l.dst (l.arr + ch))) none (ls.take m) with
              | none =>
                rw [ha] at HJ2
                have hf := HJ2.out
                have hf : u8 = .slice none 0 0 := hf
                subst hf
                have HJn : Hid (pickAll (candJ too t (fun l => Jrn.bestF L ch too k l.dst (l.arr + ch))) none (ls.take (m + 1)) = some j) := by
                  show _ = _
                  rw [HCd.out, ho, ha]; rfl
                clear hownj ho ha
                go_wp2_with fail
                refine ⟨?_, ?measure⟩
                repeat apply Exists.intro
                refine ⟨?rel, rfl⟩
                case rel =>
                  refine ⟨m + 1, by omega, by go_num, ?_, HE2, HG2, d0, d1, d2, HO2⟩
                  show JAt _ _ _ _
                  rw [HJn.out]; exact HJj.out
                case measure => simp [RowKit.intOf]; omega
              | some f0 =>
                rw [ha] at HJ2
                obtain ⟨hfne, hflen⟩ := pick_len ha
                have hf := HJ2.out
                obtain ⟨⟨gf, cf, rfl⟩, hownf⟩ := hf
                have hjp : 0 < j.length := by cases j with | nil => exact absurd rfl hjne | cons x c => simp
                have hfp : 0 < f0.length := by cases f0 with | nil => exact absurd rfl hfne | cons x c => simp
                have HC := Lib.hid (compareJourneys_any _ _ j f0 w2 (legsAt_own hownj) (legsAt_own hownf) hjp hfp (by omega) (by omega))
                have hiff := cmpJ_neg hjne hfne
                by_cases hlt2 : JLt j f0
                · have hneg : cmpJ j f0 < 0 := hiff.2 hlt2
                  have HJn : Hid (pickAll (candJ too t (fun l => Jrn.bestF L ch too k l.dst (l.arr + ch))) none (ls.take (m + 1)) = some j) := by
                    show _ = _
                    rw [HCd.out, ho, ha]
                    exact if_pos hlt2
                  clear hownj hownf ho ha hiff hlt2
                  generalize cmpJ j f0 = cv at *
                  go_wp2_with fail
                  go_at_call 101
                  refine HC.out.mono ?_
                  rintro e w3 ⟨rfl, hb3⟩
                  have HB3 := Lib.hid hb3
                  have e0 := bkeep hb3 d0
                  have e1 := bkeep hb3 d1
                  have e2 := bkeep hb3 d2
                  clear hb3 d0 d1 d2
                  go_wp2_with fail
                  refine ⟨?_, ?measure⟩
                  repeat apply Exists.intro
                  refine ⟨?rel, rfl⟩
                  case rel =>
                    refine ⟨m + 1, by omega, by go_num, ?_, HE2.out.later HB3.out, gr_trans HG2.out (gr_below HB3.out _), e0, e1, e2, own_later HO2.out HB3.out⟩
                    show JAt _ _ _ _
                    rw [HJn.out]; exact HJj.out.later HB3.out
                  case measure => simp [RowKit.intOf]; omega
                · have hneg : ¬ cmpJ j f0 < 0 := fun h => hlt2 (hiff.1 h)
                  have HJn : Hid (pickAll (candJ too t (fun l => Jrn.bestF L ch too k l.dst (l.arr + ch))) none (ls.take (m + 1)) = some f0) := by
                    show _ = _
                    rw [HCd.out, ho, ha]
                    exact if_neg hlt2
                  clear hownj hownf ho ha hiff hlt2
                  generalize cmpJ j f0 = cv at *
                  go_wp2_with fail
                  go_at_call 101
                  refine HC.out.mono ?_
                  rintro e w3 ⟨rfl, hb3⟩
                  have HB3 := Lib.hid hb3
                  have e0 := bkeep hb3 d0
                  have e1 := bkeep hb3 d1
                  have e2 := bkeep hb3 d2
                  clear hb3 d0 d1 d2
                  go_wp2_with fail
                  refine ⟨?_, ?measure⟩
                  repeat apply Exists.intro
                  refine ⟨?rel, rfl⟩
                  case rel =>
                    refine ⟨m + 1, by omega, by go_num, ?_, HE2.out.later HB3.out, gr_trans HG2.out (gr_below HB3.out _), e0, e1, e2, own_later HO2.out HB3.out⟩
                    show JAt _ _ _ _
                    rw [HJn.out]; exact HJ2.out.later HB3.out
                  case measure => simp [RowKit.intOf]; omega
        · obtain rfl : m = ls.length := by omega
          have hm1 : ¬ (ls.length : Int) < (ls.length : Int) := by omega
          have hjv : JAt (b + 7) wo u8 (Jrn.bestF L ch too (k + 1) s t) := by
            rw [HBest.out]
            have := HJ.out
            rw [List.take_length] at this
            exact this
          have hml : ls.length * cst k ≤ 432 * cst k := Nat.mul_le_mul_right _ hll
          obtain ⟨w4, hput, hE4, hg4⟩ := HE.out.put HHs.out HHt.out (wfI (by omega) (by omega)) (by have := HN'.out; omega) hjv
          unfold bV at hput
          push_cast at hput
          have HE4 : Hid (JEnv b bL L ch too (n + cst (k + 1)) w4) := hE4.mono (by have := HCst.out; omega)
          have HG4 := Lib.hid (gr_trans HG.out hg4)
          have HJ4 := Lib.hid (hjv.gr hg4 (by omega))
          have q4 := HE.out.cM
          clear hjv hml hE4 hg4
          go_wp2_with fail
          go_ret
          exact ⟨_, rfl, HJ4.out, HE4.out, HG4.out⟩
end Go.Proofs.Ytmcpafflnccfaaa

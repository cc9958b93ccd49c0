import Derived.Test.YtfgkfdkdjegaiaaMk24
namespace Go.Proofs.Ytfgkfdkdjegaiaa
open Go.RowKit
set_option linter.unusedVariables false
set_option linter.unusedSimpArgs false

theorem listOff_pre (w : World) (b : Nat) (xs : List Value) (t : TypeId) (hb : b < w.heap.size) (hm : xs.length ≤ 1000000) (k : Nat) (hk : k ≤ xs.length) : ListOff (w.alloc (.cells xs.toArray t)) b (.slice (some ⟨w.heap.size, 0, none⟩) k xs.length) (xs.take k) := by
  obtain ⟨⟨a, c, hv, h1, h2, h3⟩, hoff⟩ := listOff_built w b xs t hb hm
  simp at hv
  obtain ⟨rfl, rfl⟩ := hv
  refine ⟨⟨_, _, by rw [List.length_take, Nat.min_eq_left hk], by rw [List.length_take]; omega, h2, fun j u hu => h3 j u ?_⟩, fun a n c h hn => ?_⟩
  · rw [List.getElem?_take] at hu
    split at hu
    · exact hu
    · cases hu
  · simp at h
    obtain ⟨rfl, -, -⟩ := h
    show w.heap.size ≠ b
    omega
theorem setSameB {W : World} {q o : Nat} {u y : Value} (h : W.cell? ⟨q, o, none⟩ = some y) : (W.setCell ⟨q, o, none⟩ u).cell? ⟨q, o, none⟩ = some u := World.cell?_setCell_same' W _ _ (by rw [h]; rfl)
def slLen : Value → Nat
  | .slice _ n _ => n
  | _ => 0
def perL : List Int := [1, 5, 6, 10, 12, 15, 20, 30, 60]
theorem perL_in {k : Nat} : ∀ x ∈ perL.take k, 1 ≤ x ∧ x ≤ 60 := fun x hx => by
  have := List.mem_of_mem_take hx
  simp [perL] at this
  omega

set_option maxRecDepth 100000 in
set_option maxHeartbeats 16000000 in
theorem patterns_any (b n : Nat) (v : Value) (most : Nat) (w : World) (hc : CurAt w b v n) (hv : CodeOff w b v) (hn : n ≤ 200000) (hmo : 7 ≤ most ∧ most ≤ 9) :
    Calls Try.prog 69 #[.pointer (some ⟨b, 0, none⟩), .int .i64 (most : Int)] w fun e w' => (∃ (d : NetD) (a : Option Addr) (c : Nat) (oa : Option Addr) (oc : Nat) (p : Int) (xs : List PatternD) (la : Option Addr) (lc : Nat), e = .returned (.tuple #[.agg #[.slice a d.stops.length c, .slice oa d.lines.length oc], .int .i64 p, .slice la xs.length lc]) ∧ (d.stops.length ≤ 8 ∧ ∀ s ∈ d.stops, s.size ≤ 20) ∧ d.lines.length ≤ 12 ∧ (∀ l ∈ d.lines, AnyLn l) ∧ (0 ≤ p ∧ p ≤ 61) ∧ xs.length ≤ 4 ∧ (∀ x ∈ xs, PtIn x) ∧
      NetL (w.heap.size + 1) w'.heap.size w' (.agg #[.slice a d.stops.length c, .slice oa d.lines.length oc]) d ∧ w'.ownsRow (w.heap.size + 1) 45 2 (.slice la xs.length lc) xs.length (patC xs)) ∧ CurPost w b (n + 900) v w' := by
  have hlt := curAt_lt hc
  have HV := Lib.hid hv
  have HP0 := Lib.hid (curPost_start hc hv (.cells #[.slice none 0 0, .slice none 0 0] 27))
  have H1 := Lib.hid (anyNetwork_any b n v _ HP0.out.1 HP0.out.2.1 (by omega))
  have hz : (w.alloc (.cells #[.slice none 0 0, .slice none 0 0] 27)).cell? ⟨w.heap.size, 0, none⟩ = some (.slice none 0 0) ∧ (w.alloc (.cells #[.slice none 0 0, .slice none 0 0] 27)).cell? ⟨w.heap.size, 1, none⟩ = some (.slice none 0 0) ∧ ∀ o, (w.alloc (.cells #[.slice none 0 0, .slice none 0 0] 27)).frozen? ⟨w.heap.size, o, none⟩ = false := ⟨by go_simp, by go_simp, fun o => by go_simp⟩
  have HZ := Lib.hid hz
  have hmo0 : (0 : Int) ≤ (most : Int) := by omega
  have hmo9 : (most : Int) ≤ 9 := by omega
  clear hc hv hz
  go_enter Try.func69, Try.ntmps69
  go_wp2_with fail
  go_at_call 99
  refine H1.out.mono ?_
  rintro e w1 ⟨⟨d, a, c, oa, oc, u, rfl, hd8, hd12, hln, hnet, hu⟩, hp⟩
  have hz1 : w.heap.size < w1.heap.size := by have := hp.2.2.size; simp at this; omega
  rw [World.size_alloc] at hnet
  obtain ⟨w2, hw2⟩ : ∃ w2 : World, w2 = w1.alloc (.cells #[.slice a d.stops.length c, .slice oa d.lines.length oc] 27) := ⟨_, rfl⟩
  have hsz2 : w2.heap.size = w1.heap.size + 1 := by rw [hw2]; simp
  have hbb : Below w1.heap.size w1 w2 := by rw [hw2]; exact (Below.refl _ _).alloc (Nat.le_refl _) _
  have hkz : ∀ o u, (w.alloc (.cells #[.slice none 0 0, .slice none 0 0] 27)).cell? ⟨w.heap.size, o, none⟩ = some u → w2.cell? ⟨w.heap.size, o, none⟩ = some u := fun o u hu => bkeep hbb (hp.2.2.cell hu (by simp; omega))
  have HS2 : Hid (PtSt w b v w1.heap.size w2.heap.size (.slice a d.stops.length c) (.slice oa d.lines.length oc) d (n + 700) (.slice none 0 0) [] w2) :=
    ⟨curPost_later HV.out hlt (curPost_trans HP0.out hp) hbb, hlt, HV.out, hz1, by omega, Nat.le_refl _, (hnet.base (by omega) hu).later hbb, by rw [hw2]; go_simp, by rw [hw2]; go_simp, hkz _ _ HZ.out.1, hkz _ _ HZ.out.2.1, fun o => by
      rw [World.frozen?_of_block (a := ⟨w.heap.size, o, none⟩) (hbb.block w.heap.size (by omega)), World.frozen?_of_block (a := ⟨w.heap.size, o, none⟩) (hp.2.2.block w.heap.size (by simp) (by simp; omega))]
      exact HZ.out.2.2 o, World.ownsRow_nil _ _ _ _, fun x hx => by simp at hx⟩
  have HD : Hid ((d.stops.length ≤ 8 ∧ ∀ s ∈ d.stops, s.size ≤ 20) ∧ d.lines.length ≤ 12 ∧ (∀ l ∈ d.lines, AnyLn l)) := ⟨hd8, hd12, hln⟩
  obtain ⟨nb, hnb⟩ : ∃ nb, nb = w1.heap.size := ⟨_, rfl⟩
  obtain ⟨B, hB⟩ : ∃ B, B = w2.heap.size := ⟨_, rfl⟩
  rw [← hnb, ← hB] at HS2
  have hlt2 : b < w2.heap.size := by omega
  have hl := listOff_pre w2 b (perL.map (.int .i64)) 3 hlt2 (by decide) most (by simp [perL]; omega)
  rw [show (perL.map (Value.int .i64)).toArray = #[.int .i64 1, .int .i64 5, .int .i64 6, .int .i64 10, .int .i64 12, .int .i64 15, .int .i64 20, .int .i64 30, .int .i64 60] from rfl, show (perL.map (Value.int .i64)).length = 9 from rfl] at hl
  have HL := Lib.hid hl
  have HS3 := Lib.hid (HS2.out.alloc (.cells #[.int .i64 1, .int .i64 5, .int .i64 6, .int .i64 10, .int .i64 12, .int .i64 15, .int .i64 20, .int .i64 30, .int .i64 60] 3))
  have H3 := Lib.hid (among_any b (n + 700) v (.slice (some ⟨w2.heap.size, 0, none⟩) most 9) (perL.take most) _ HS3.out.cur.1 HS3.out.cur.2.1 (by omega) (by rw [List.map_take]; exact HL.out) (by simp [perL]; omega) (by simp [perL]; omega) (fun z hz => by have := perL_in z hz; omega))
  have hszn : w2.heap.size = nb + 1 := by omega
  rw [hszn] at H3
  have HW2 := Lib.hid hw2
  have hbn : nb < B := by omega
  have hnw : w.heap.size < nb := by omega
  clear hp H1 HP0 HZ hw2 hbb hnet hu hkz hd8 hln HS2 HL hl hsz2 hz1 hszn
  go_wp2_with fail
  rw [← HW2.out]
  try rw [← hnb]
  go_at_call 76
  refine H3.out.mono ?_
  rintro e w3 ⟨⟨p, hpm, rfl⟩, hp⟩
  have hpp := perL_in p hpm
  have HS4 := Lib.hid ((HS3.out.cur' hp).turn (r := none) (W' := w3.alloc (.cells #[] 45)) grown_alloc (fun g e => by cases e) (ys := []) (o' := .slice (some ⟨w3.heap.size, 0, none⟩) 0 0) (World.ownsRow_lit (base := B) (e := 45) (size := 2) w3 #[] 0 (by have := (HS3.out.cur' hp).lB; omega) (by decide) (by simp)) (fun x hx => by simp at hx))
  have H4 := Lib.hid (pick_any b (n + 702) v 3 _ HS4.out.cur.1 HS4.out.cur.2.1 (by omega) (by omega))
  clear hp H3 HS3 hpm HW2 hB hnb
  go_wp2_with fail
  go_at_call 70
  refine H4.out.mono ?_
  rintro e w4 ⟨⟨r4, rfl, hr0, hr1⟩, hp⟩
  have hr2 := hr1 (by omega)
  have HS5 := Lib.hid (HS4.out.cur' hp)
  obtain ⟨k0, rfl⟩ := Int.eq_ofNat_of_zero_le hr0
  have hw1k : IntKind.i64.wrap (1 + (k0 : Int)) = ((k0 + 1 : Nat) : Int) := by rw [IntWalk.i64_in _ (by omega)]; push_cast; omega
  clear hp H4 HS4 hr1
  obtain ⟨iP, hiP, hzP0, hzP1, hzP2⟩ := info_parts infoPattern
  by_cases hd : 0 < d.lines.length
  · have hdl : (0 : Int) < (d.lines.length : Int) := by omega
    go_wp2_with fail
    go_loopw [9, 10] (fun o q0 wr => ∃ (k : Nat) (xs : List PatternD) (m : Nat), k ≤ 3 ∧ xs.length + k = k0 + 1 ∧ m + 4 * k ≤ n + 716 ∧ q0 = .int .i64 (k : Int) ∧ Hid (PtSt w b v nb B (.slice a d.stops.length c) (.slice oa d.lines.length oc) d m o xs wr))
      (fun _ q0 _ => (RowKit.intOf q0).toNat)
    case atStart => exact ⟨k0 + 1, [], n + 704, by omega, by simp, by omega, rfl, HS5.out⟩
    case round =>
      clear HS5
      obtain ⟨k, xs, m, hk3, hxk, hmk, rfl, HS⟩ := hrel
      obtain ⟨oa1, oc1, rfl⟩ := own_shape HS.out.row
      have c1 := HS.out.c1
      by_cases hk : 0 < k
      · obtain ⟨j, rfl⟩ : ∃ j, k = j + 1 := ⟨k - 1, by omega⟩
        have hk1 : (0 : Int) < ((j + 1 : Nat) : Int) := by omega
        have hk1' : (0 : Int) < (j : Int) + 1 := by omega
        have hjw : IntKind.i64.wrap (((j + 1 : Nat) : Int) - 1) = (j : Int) := by rw [IntWalk.i64_in _ (by omega)]; omega
        have hjw' : IntKind.i64.wrap ((j : Int) + 1 - 1) = (j : Int) := by rw [IntWalk.i64_in _ (by omega)]; omega
        have H7 := Lib.hid (pick_any b m v (d.lines.length : Int) wr HS.out.cur.1 HS.out.cur.2.1 (by omega) (by omega))
        have hd12' := HD.out.2.1
        go_wp2_with fail
        go_at_call 70
        refine H7.out.mono ?_
        rintro e w6 ⟨⟨r7, rfl, r70, r71⟩, hp⟩
        have r72 := r71 (by omega)
        have HS6 := Lib.hid (HS.out.cur' hp)
        have H8 := Lib.hid (pick_any b (m + 2) v p w6 HS6.out.cur.1 HS6.out.cur.2.1 (by omega) (by omega))
        clear hp H7 HS c1 r71
        go_wp2_with fail
        go_at_call 70
        refine H8.out.mono ?_
        rintro e w7 ⟨⟨r8, rfl, r80, r81⟩, hp⟩
        have r82 := r81 (by omega)
        have HS7 := Lib.hid (HS6.out.cur' hp)
        have hlB := HS7.out.lB
        clear hp H8 HS6 r81
        go_wp2_with (at_builtin; refine wpList_append_own _ rfl _ _ 28 rfl B 45 iP (.agg #[.int .i64 0, .int .i64 0]) 2 16 Try.underlying28 hiP hzP0 hzP1 hzP2 rfl (by decide) _ _ _ rfl (HS7.out.row.alloc _) ⟨w7.heap.size, 0, none⟩ 1 1 [.int .i64 r7, .int .i64 r8] rfl rfl ?c1 ?c2 ?c3 ?c4 ?c5 ?_)
        try (case c1 => exact patC_one _ ⟨r7, r8⟩ _)
        case c2 => first | rfl | (intro u hu; simp at hu; rcases hu with rfl | rfl <;> rfl) | simp
        case c3 => first | omega | (unfold maxLen; omega)
        try (case c4 => omega)
        try (case c5 => first | omega | (simp; omega))
        intro v' w8 hown' hgrow _
        have HS8 := Lib.hid ((HS7.out.alloc _).app ⟨r7, r8⟩ (by unfold PtIn; simp only; omega) hown' hgrow)
        clear hown' hgrow HS7
        go_wp2_with fail
        go_roundw
        case rel => exact ⟨j, xs ++ [⟨r7, r8⟩], m + 4, by omega, by simp; omega, by omega, rfl, HS8⟩
        case measure => simp [RowKit.intOf] <;> omega
      · obtain rfl : k = 0 := by omega
        have hk1 : ¬ (0 : Int) < ((0 : Nat) : Int) := by omega
        have hxs0 : 1 ≤ xs.length := by omega
        have hxs3 : xs.length ≤ 3 := by omega
        have hm8 : m ≤ n + 716 := by omega
        have hl0 : ((xs.length : Int) == 0) = false := by rw [beq_eq_false_iff_ne]; omega
        have hl0' : (xs.length == 0) = false := by rw [beq_eq_false_iff_ne]; omega
        clear hxk hmk hk3
        have H10 := Lib.hid (pick_any b m v (xs.length : Int) wr HS.out.cur.1 HS.out.cur.2.1 (by omega) (by omega))
        go_wp2_with fail
        go_at_call 70
        refine H10.out.mono ?_
        rintro e w9 ⟨⟨r9, rfl, r90, r91⟩, hp⟩
        have r92 := r91 (by omega)
        have HS9 := Lib.hid (HS.out.cur' hp)
        obtain ⟨j, rfl⟩ := Int.eq_ofNat_of_zero_le r90
        have hj : j < xs.length := by omega
        clear hp H10 HS c1 r91
        obtain ⟨rg, rc, hov, hrc1, hrc2, hrgl, hrgb, hcl⟩ := own_open HS9.out.row (own_someE HS9.out.row (by omega))
        simp only [Value.slice.injEq, true_and] at hov
        obtain ⟨rfl, rfl⟩ := hov
        have y0 := hcl _ _ (patC_get0 xs j hj)
        have y1 := hcl _ _ (patC_get1 xs j hj)
        have HXin := Lib.hid (HS9.out.ok _ (List.getElem_mem hj))
        obtain ⟨xl, hxl⟩ : ∃ xl, xs[j].line = xl := ⟨_, rfl⟩
        obtain ⟨xo, hxo⟩ : ∃ xo, xs[j].offs = xo := ⟨_, rfl⟩
        unfold PtIn at HXin
        rw [hxl, hxo] at HXin
        rw [hxl] at y0
        rw [hxo] at y1
        have hlB9 := HS9.out.lB
        have hbn9 : b < nb := by have := HS9.out.hb; omega
        obtain ⟨xb, hxb⟩ : ∃ xb, xb = w9.heap.size := ⟨_, rfl⟩
        obtain ⟨w10, hw10⟩ : ∃ w10 : World, w10 = w9.alloc (.cells #[.int .i64 xl, .int .i64 xo] 45) := ⟨_, rfl⟩
        have HS10 : Hid (PtSt w b v nb B (.slice a d.stops.length c) (.slice oa d.lines.length oc) d (m + 2) (.slice (some ⟨rg, 0, none⟩) xs.length oc1) xs w10) := by show PtSt _ _ _ _ _ _ _ _ _ _ _ _; rw [hw10]; exact HS9.out.alloc _
        have HX10 : Hid (w10.cell? ⟨xb, 0, none⟩ = some (.int .i64 xl) ∧ w10.cell? ⟨xb, 1, none⟩ = some (.int .i64 xo) ∧ (∀ o, w10.frozen? ⟨xb, o, none⟩ = false)) := by rw [hxb, hw10]; exact ⟨by go_simp, by go_simp, fun o => by go_simp⟩
        have hrx : rg ≠ xb := by omega
        have hBx : B ≤ xb := by omega
        have hbx : b ≠ xb := by omega
        have H12 := Lib.hid (pick_any b (m + 2) v 40 w10 HS10.out.cur.1 HS10.out.cur.2.1 (by omega) (by omega))
        have HW10 := Lib.hid hw10
        have HXB := Lib.hid hxb
        have hji : (j : Int) < (xs.length : Int) := by omega
        clear hcl hxl hxo HS9 hw10 hrgl
        clear hxb
        go_wp2_with fail
        rw [← HW10.out, ← HXB.out]
        go_at_call 70
        refine H12.out.mono ?_
        rintro e w11 ⟨⟨r12, rfl, r120, r121⟩, hp⟩
        have r122 := r121 (by omega)
        have HS11 := Lib.hid (HS10.out.cur' hp)
        have HX : Hid (w11.cell? ⟨xb, 0, none⟩ = some (.int .i64 xl) ∧ w11.cell? ⟨xb, 1, none⟩ = some (.int .i64 xo) ∧ (∀ o, w11.frozen? ⟨xb, o, none⟩ = false)) := ⟨hp.2.2.cell HX10.out.1 (by simp; omega), hp.2.2.cell HX10.out.2.1 (by simp; omega), fun o => by rw [World.frozen?_of_block (a := ⟨xb, o, none⟩) (hp.2.2.block xb (show xb < _ from World.block_lt_of_cell? _ ⟨xb, 0, none⟩ HX10.out.1) (by simp; omega))]; exact HX10.out.2.2 o⟩
        clear hp H12 HS10 HX10 HW10 HXB y0 y1 r121 hlB9
        by_cases h0 : r12 = 0
        · subst h0
          have hla := listOff_built w11 b ((([(-1), 5] : List Int)).map (.int .i64)) 3 (by have := HS11.out.hb; have := HS11.out.lB; have := HS11.out.hB; have := HS11.out.hn; omega) (by simp)
          rw [show (((([(-1), 5] : List Int)).map (Value.int .i64)).toArray) = #[.int .i64 (-1), .int .i64 5] from rfl, show ((([(-1), 5] : List Int)).map (Value.int .i64)).length = 2 from rfl] at hla
          have HSl := Lib.hid (HS11.out.alloc (.cells #[.int .i64 (-1), .int .i64 5] 3))
          have HXl : Hid ((w11.alloc (.cells #[.int .i64 (-1), .int .i64 5] 3)).cell? ⟨xb, 0, none⟩ = some (.int .i64 xl) ∧ (w11.alloc (.cells #[.int .i64 (-1), .int .i64 5] 3)).cell? ⟨xb, 1, none⟩ = some (.int .i64 xo) ∧ (∀ o, (w11.alloc (.cells #[.int .i64 (-1), .int .i64 5] 3)).frozen? ⟨xb, o, none⟩ = false)) := ⟨acell HX.out.1 _, acell HX.out.2.1 _, fun o => by rw [World.frozen?_of_block (a := ⟨xb, o, none⟩) (Below.heap_alloc _ _ _ (show xb < w11.heap.size from World.block_lt_of_cell? _ ⟨xb, 0, none⟩ HX.out.1))]; exact HX.out.2.2 o⟩
          have Ha := Lib.hid (among_any b (m + 4) v (.slice (some ⟨w11.heap.size, 0, none⟩) 2 2) [(-1), 5] _ HSl.out.cur.1 HSl.out.cur.2.1 (by omega) hla (by simp) (by simp) (fun z hz => by simp at hz; omega))
          clear hla
          go_wp2_with fail
          go_at_call 76
          refine Ha.out.mono ?_
          rintro e w15 ⟨⟨z, hzm, rfl⟩, hp⟩
          have HS15 := Lib.hid (HSl.out.cur' hp)
          have HX1 : Hid (w15.cell? ⟨xb, 0, none⟩ = some (.int .i64 xl) ∧ w15.cell? ⟨xb, 1, none⟩ = some (.int .i64 xo) ∧ (∀ o, w15.frozen? ⟨xb, o, none⟩ = false)) := ⟨hp.2.2.cell HXl.out.1 (by simp; omega), hp.2.2.cell HXl.out.2.1 (by simp; omega), fun o => by rw [World.frozen?_of_block (a := ⟨xb, o, none⟩) (hp.2.2.block xb (show xb < _ from World.block_lt_of_cell? _ ⟨xb, 0, none⟩ HXl.out.1) (by simp; omega))]; exact HXl.out.2.2 o⟩
          have hxbl : xb < w15.heap.size := World.block_lt_of_cell? _ ⟨xb, 0, none⟩ HX1.out.1
          simp at hzm
          clear hp Ha HSl HXl HX
          obtain ⟨x0, x1, xf⟩ := HX1.out
          have HS16 := Lib.hid (HS15.out.turn (r := some xb) (W' := w15.setCell ⟨xb, 0, none⟩ (.int .i64 z)) grown_setCell (fun g e => by cases e; omega) (HS15.out.row.kept grown_setCell (.inr (fun e => by simp [Value.ownBlock] at e; omega))) HS15.out.ok)
          have HX : Hid ((w15.setCell ⟨xb, 0, none⟩ (.int .i64 z)).cell? ⟨xb, 0, none⟩ = some (.int .i64 z) ∧ (w15.setCell ⟨xb, 0, none⟩ (.int .i64 z)).cell? ⟨xb, 1, none⟩ = some (.int .i64 xo) ∧ (∀ o, (w15.setCell ⟨xb, 0, none⟩ (.int .i64 z)).frozen? ⟨xb, o, none⟩ = false)) := ⟨setSameB x0, cell_beside x1 (by omega), fun o => by rw [World.frozen?_setCell]; exact xf o⟩
          have HXi : Hid (PtIn ⟨z, xo⟩) := by have h := HXin.out; show PtIn _; unfold PtIn at *; simp only at *; omega
          obtain ⟨W2, hW2⟩ : ∃ W2 : World, W2 = w15.setCell ⟨xb, 0, none⟩ (.int .i64 z) := ⟨_, rfl⟩
          rw [← hW2] at HS16 HX
          clear HX1 HS15
          go_upto_region 22 with fail
          rw [← hW2]
          clear hW2 x0 x1 xf
          have hjx : j < (xs).length := by first | omega | (simp; omega)
          obtain ⟨x0, x1, xf⟩ := HX.out
          have hyc0 : W2.cell? ⟨rg, j * 2, none⟩ = some ((patC (xs))[j * 2]'(by rw [patC_len]; omega)) := by
            have h := HS16.out.row.cellAt (j * 2) (by omega)
            rw [h]; exact List.getElem?_eq_getElem _
          have hyc1 : W2.cell? ⟨rg, j * 2 + 1, none⟩ = some ((patC (xs))[j * 2 + 1]'(by rw [patC_len]; omega)) := by
            have h := HS16.out.row.cellAt (j * 2 + 1) (by omega)
            rw [h]; exact List.getElem?_eq_getElem _
          have hyf := fun o => HS16.out.row.frozenAt o
          have HSf := Lib.hid (HS16.out.setAt j hjx ⟨z, xo⟩ HXi.out)
          generalize (patC (xs))[j * 2]'_ = old0 at *
          generalize (patC (xs))[j * 2 + 1]'_ = old1 at *
          have hji : (j : Int) < ((xs).length : Int) := by omega
          have hlBe := HS16.out.lB
          have hj0 : (0 : Int) ≤ (j : Int) := by omega
          clear HS16 HX HXi
          obtain ⟨fc, fnet, frow⟩ := HSf.out.fin (.slice a d.stops.length c) (.slice oa d.lines.length oc)
          have HF := Lib.hid (And.intro fc (And.intro fnet frow))
          have hlB := HSf.out.lB
          have hcm := HSf.out.cur.2.2.size
          have z0 := HSf.out.z0
          have z1 := HSf.out.z1
          have zf := HSf.out.zf
          have c0 := HSf.out.c0
          have c1 := HSf.out.c1
          have HOk := Lib.hid HSf.out.ok
          clear fc fnet frow HSf
          go_wp2_with fail
          exact bodyPost_ret (v := .tuple #[.agg #[.slice a d.stops.length c, .slice oa d.lines.length oc], .int .i64 p, .slice (some ⟨rg, 0, none⟩) (xs).length oc1]) (by simp only [results, Try.results69]; go_simp) rfl ⟨⟨d, a, c, oa, oc, p, (xs).set j ⟨z, xo⟩, (some ⟨rg, 0, none⟩), oc1, by rw [List.length_set], HD.out.1, HD.out.2.1, HD.out.2.2, by omega, by simp <;> omega, HOk.out, HF.out.2.1.base (Nat.le_refl _) (by simp [World.setCell]; omega), by have h := own_base HF.out.2.2 (show w.heap.size + 1 ≤ B by omega); rw [List.length_set] at h ⊢; exact h⟩, curPost_mono HF.out.1 (by omega)⟩
        · have e0 : (r12 == 0) = false := by simp [h0]
          by_cases h1 : r12 = 1
          · subst h1
            clear e0 h0
            have hla := listOff_built w11 b ((([(-1), p] : List Int)).map (.int .i64)) 3 (by have := HS11.out.hb; have := HS11.out.lB; have := HS11.out.hB; have := HS11.out.hn; omega) (by simp)
            rw [show (((([(-1), p] : List Int)).map (Value.int .i64)).toArray) = #[.int .i64 (-1), .int .i64 p] from rfl, show ((([(-1), p] : List Int)).map (Value.int .i64)).length = 2 from rfl] at hla
            have HSl := Lib.hid (HS11.out.alloc (.cells #[.int .i64 (-1), .int .i64 p] 3))
            have HXl : Hid ((w11.alloc (.cells #[.int .i64 (-1), .int .i64 p] 3)).cell? ⟨xb, 0, none⟩ = some (.int .i64 xl) ∧ (w11.alloc (.cells #[.int .i64 (-1), .int .i64 p] 3)).cell? ⟨xb, 1, none⟩ = some (.int .i64 xo) ∧ (∀ o, (w11.alloc (.cells #[.int .i64 (-1), .int .i64 p] 3)).frozen? ⟨xb, o, none⟩ = false)) := ⟨acell HX.out.1 _, acell HX.out.2.1 _, fun o => by rw [World.frozen?_of_block (a := ⟨xb, o, none⟩) (Below.heap_alloc _ _ _ (show xb < w11.heap.size from World.block_lt_of_cell? _ ⟨xb, 0, none⟩ HX.out.1))]; exact HX.out.2.2 o⟩
            have Ha := Lib.hid (among_any b (m + 4) v (.slice (some ⟨w11.heap.size, 0, none⟩) 2 2) [(-1), p] _ HSl.out.cur.1 HSl.out.cur.2.1 (by omega) hla (by simp) (by simp) (fun z hz => by simp at hz; omega))
            clear hla
            go_wp2_with fail
            go_at_call 76
            refine Ha.out.mono ?_
            rintro e w15 ⟨⟨z, hzm, rfl⟩, hp⟩
            have HS15 := Lib.hid (HSl.out.cur' hp)
            have HX1 : Hid (w15.cell? ⟨xb, 0, none⟩ = some (.int .i64 xl) ∧ w15.cell? ⟨xb, 1, none⟩ = some (.int .i64 xo) ∧ (∀ o, w15.frozen? ⟨xb, o, none⟩ = false)) := ⟨hp.2.2.cell HXl.out.1 (by simp; omega), hp.2.2.cell HXl.out.2.1 (by simp; omega), fun o => by rw [World.frozen?_of_block (a := ⟨xb, o, none⟩) (hp.2.2.block xb (show xb < _ from World.block_lt_of_cell? _ ⟨xb, 0, none⟩ HXl.out.1) (by simp; omega))]; exact HXl.out.2.2 o⟩
            have hxbl : xb < w15.heap.size := World.block_lt_of_cell? _ ⟨xb, 0, none⟩ HX1.out.1
            simp at hzm
            clear hp Ha HSl HXl HX
            obtain ⟨x0, x1, xf⟩ := HX1.out
            have HS16 := Lib.hid (HS15.out.turn (r := some xb) (W' := w15.setCell ⟨xb, 1, none⟩ (.int .i64 z)) grown_setCell (fun g e => by cases e; omega) (HS15.out.row.kept grown_setCell (.inr (fun e => by simp [Value.ownBlock] at e; omega))) HS15.out.ok)
            have HX : Hid ((w15.setCell ⟨xb, 1, none⟩ (.int .i64 z)).cell? ⟨xb, 0, none⟩ = some (.int .i64 xl) ∧ (w15.setCell ⟨xb, 1, none⟩ (.int .i64 z)).cell? ⟨xb, 1, none⟩ = some (.int .i64 z) ∧ (∀ o, (w15.setCell ⟨xb, 1, none⟩ (.int .i64 z)).frozen? ⟨xb, o, none⟩ = false)) := ⟨cell_beside x0 (by omega), setSameB x1, fun o => by rw [World.frozen?_setCell]; exact xf o⟩
            have HXi : Hid (PtIn ⟨xl, z⟩) := by have h := HXin.out; show PtIn _; unfold PtIn at *; simp only at *; omega
            obtain ⟨W2, hW2⟩ : ∃ W2 : World, W2 = w15.setCell ⟨xb, 1, none⟩ (.int .i64 z) := ⟨_, rfl⟩
            rw [← hW2] at HS16 HX
            clear HX1 HS15
            go_upto_region 22 with fail
            rw [← hW2]
            clear hW2 x0 x1 xf
            have hjx : j < (xs).length := by first | omega | (simp; omega)
            obtain ⟨x0, x1, xf⟩ := HX.out
            have hyc0 : W2.cell? ⟨rg, j * 2, none⟩ = some ((patC (xs))[j * 2]'(by rw [patC_len]; omega)) := by
              have h := HS16.out.row.cellAt (j * 2) (by omega)
              rw [h]; exact List.getElem?_eq_getElem _
            have hyc1 : W2.cell? ⟨rg, j * 2 + 1, none⟩ = some ((patC (xs))[j * 2 + 1]'(by rw [patC_len]; omega)) := by
              have h := HS16.out.row.cellAt (j * 2 + 1) (by omega)
              rw [h]; exact List.getElem?_eq_getElem _
            have hyf := fun o => HS16.out.row.frozenAt o
            have HSf := Lib.hid (HS16.out.setAt j hjx ⟨xl, z⟩ HXi.out)
            generalize (patC (xs))[j * 2]'_ = old0 at *
            generalize (patC (xs))[j * 2 + 1]'_ = old1 at *
            have hji : (j : Int) < ((xs).length : Int) := by omega
            have hlBe := HS16.out.lB
            have hj0 : (0 : Int) ≤ (j : Int) := by omega
            clear HS16 HX HXi
            obtain ⟨fc, fnet, frow⟩ := HSf.out.fin (.slice a d.stops.length c) (.slice oa d.lines.length oc)
            have HF := Lib.hid (And.intro fc (And.intro fnet frow))
            have hlB := HSf.out.lB
            have hcm := HSf.out.cur.2.2.size
            have z0 := HSf.out.z0
            have z1 := HSf.out.z1
            have zf := HSf.out.zf
            have c0 := HSf.out.c0
            have c1 := HSf.out.c1
            have HOk := Lib.hid HSf.out.ok
            clear fc fnet frow HSf
            go_wp2_with fail
            exact bodyPost_ret (v := .tuple #[.agg #[.slice a d.stops.length c, .slice oa d.lines.length oc], .int .i64 p, .slice (some ⟨rg, 0, none⟩) (xs).length oc1]) (by simp only [results, Try.results69]; go_simp) rfl ⟨⟨d, a, c, oa, oc, p, (xs).set j ⟨xl, z⟩, (some ⟨rg, 0, none⟩), oc1, by rw [List.length_set], HD.out.1, HD.out.2.1, HD.out.2.2, by omega, by simp <;> omega, HOk.out, HF.out.2.1.base (Nat.le_refl _) (by simp [World.setCell]; omega), by have h := own_base HF.out.2.2 (show w.heap.size + 1 ≤ B by omega); rw [List.length_set] at h ⊢; exact h⟩, curPost_mono HF.out.1 (by omega)⟩
          · have e1 : (r12 == 1) = false := by simp [h1]
            by_cases h2 : r12 = 2
            · subst h2
              clear e0 h0 e1 h1
              have hla := listOff_built w11 b ((([0, 61, 60] : List Int)).map (.int .i64)) 3 (by have := HS11.out.hb; have := HS11.out.lB; have := HS11.out.hB; have := HS11.out.hn; omega) (by simp)
              rw [show (((([0, 61, 60] : List Int)).map (Value.int .i64)).toArray) = #[.int .i64 0, .int .i64 61, .int .i64 60] from rfl, show ((([0, 61, 60] : List Int)).map (Value.int .i64)).length = 3 from rfl] at hla
              have HSl := Lib.hid (HS11.out.alloc (.cells #[.int .i64 0, .int .i64 61, .int .i64 60] 3))
              have HXl : Hid ((w11.alloc (.cells #[.int .i64 0, .int .i64 61, .int .i64 60] 3)).cell? ⟨xb, 0, none⟩ = some (.int .i64 xl) ∧ (w11.alloc (.cells #[.int .i64 0, .int .i64 61, .int .i64 60] 3)).cell? ⟨xb, 1, none⟩ = some (.int .i64 xo) ∧ (∀ o, (w11.alloc (.cells #[.int .i64 0, .int .i64 61, .int .i64 60] 3)).frozen? ⟨xb, o, none⟩ = false)) := ⟨acell HX.out.1 _, acell HX.out.2.1 _, fun o => by rw [World.frozen?_of_block (a := ⟨xb, o, none⟩) (Below.heap_alloc _ _ _ (show xb < w11.heap.size from World.block_lt_of_cell? _ ⟨xb, 0, none⟩ HX.out.1))]; exact HX.out.2.2 o⟩
              have Ha := Lib.hid (among_any b (m + 4) v (.slice (some ⟨w11.heap.size, 0, none⟩) 3 3) [0, 61, 60] _ HSl.out.cur.1 HSl.out.cur.2.1 (by omega) hla (by simp) (by simp) (fun z hz => by simp at hz; omega))
              clear hla
              go_wp2_with fail
              go_at_call 76
              refine Ha.out.mono ?_
              rintro e w15 ⟨⟨z, hzm, rfl⟩, hp⟩
              have HS15 := Lib.hid (HSl.out.cur' hp)
              have HX1 : Hid (w15.cell? ⟨xb, 0, none⟩ = some (.int .i64 xl) ∧ w15.cell? ⟨xb, 1, none⟩ = some (.int .i64 xo) ∧ (∀ o, w15.frozen? ⟨xb, o, none⟩ = false)) := ⟨hp.2.2.cell HXl.out.1 (by simp; omega), hp.2.2.cell HXl.out.2.1 (by simp; omega), fun o => by rw [World.frozen?_of_block (a := ⟨xb, o, none⟩) (hp.2.2.block xb (show xb < _ from World.block_lt_of_cell? _ ⟨xb, 0, none⟩ HXl.out.1) (by simp; omega))]; exact HXl.out.2.2 o⟩
              have hxbl : xb < w15.heap.size := World.block_lt_of_cell? _ ⟨xb, 0, none⟩ HX1.out.1
              simp at hzm
              clear hp Ha HSl HXl HX
              have HX := HX1
              have HXi : Hid (PtIn ⟨xl, xo⟩) := HXin.out
              clear HX1
              have hjx : j < (xs).length := by first | omega | (simp; omega)
              obtain ⟨x0, x1, xf⟩ := HX.out
              have hyc0 : w15.cell? ⟨rg, j * 2, none⟩ = some ((patC (xs))[j * 2]'(by rw [patC_len]; omega)) := by
                have h := HS15.out.row.cellAt (j * 2) (by omega)
                rw [h]; exact List.getElem?_eq_getElem _
              have hyc1 : w15.cell? ⟨rg, j * 2 + 1, none⟩ = some ((patC (xs))[j * 2 + 1]'(by rw [patC_len]; omega)) := by
                have h := HS15.out.row.cellAt (j * 2 + 1) (by omega)
                rw [h]; exact List.getElem?_eq_getElem _
              have hyf := fun o => HS15.out.row.frozenAt o
              have HSf := Lib.hid (HS15.out.setAt j hjx ⟨xl, xo⟩ HXi.out)
              generalize (patC (xs))[j * 2]'_ = old0 at *
              generalize (patC (xs))[j * 2 + 1]'_ = old1 at *
              have hji : (j : Int) < ((xs).length : Int) := by omega
              have hlBe := HS15.out.lB
              have hj0 : (0 : Int) ≤ (j : Int) := by omega
              clear HS15 HX HXi
              obtain ⟨fc, fnet, frow⟩ := HSf.out.fin (.slice a d.stops.length c) (.slice oa d.lines.length oc)
              have HF := Lib.hid (And.intro fc (And.intro fnet frow))
              have hlB := HSf.out.lB
              have hcm := HSf.out.cur.2.2.size
              have z0 := HSf.out.z0
              have z1 := HSf.out.z1
              have zf := HSf.out.zf
              have c0 := HSf.out.c0
              have c1 := HSf.out.c1
              have HOk := Lib.hid HSf.out.ok
              clear fc fnet frow HSf
              go_wp2_with fail
              exact bodyPost_ret (v := .tuple #[.agg #[.slice a d.stops.length c, .slice oa d.lines.length oc], .int .i64 z, .slice (some ⟨rg, 0, none⟩) (xs).length oc1]) (by simp only [results, Try.results69]; go_simp) rfl ⟨⟨d, a, c, oa, oc, z, (xs).set j ⟨xl, xo⟩, (some ⟨rg, 0, none⟩), oc1, by rw [List.length_set], HD.out.1, HD.out.2.1, HD.out.2.2, by omega, by simp <;> omega, HOk.out, HF.out.2.1.base (Nat.le_refl _) (by simp [World.setCell]; omega), by have h := own_base HF.out.2.2 (show w.heap.size + 1 ≤ B by omega); rw [List.length_set] at h ⊢; exact h⟩, curPost_mono HF.out.1 (by omega)⟩
            · have e2 : (r12 == 2) = false := by simp [h2]
              by_cases h3 : r12 = 3
              · subst h3
                clear e0 h0 e1 h1 e2 h2
                have hxbl : xb < w11.heap.size := World.block_lt_of_cell? _ ⟨xb, 0, none⟩ HX.out.1
                go_wp2_with fail
                go_loopw [9] (fun o wr => ∃ (ys : List PatternD) (mm g5 c5 : Nat), ys.length ≤ 4 ∧ xs.length ≤ ys.length ∧ mm ≤ n + 720 + 2 * ys.length ∧ o = .slice (some ⟨g5, 0, none⟩) ys.length c5 ∧ g5 ≠ xb ∧ Hid (PtSt w b v nb B (.slice a d.stops.length c) (.slice oa d.lines.length oc) d mm o ys wr) ∧ Hid (wr.cell? ⟨xb, 0, none⟩ = some (.int .i64 xl) ∧ wr.cell? ⟨xb, 1, none⟩ = some (.int .i64 xo) ∧ (∀ o, wr.frozen? ⟨xb, o, none⟩ = false)))
                  (fun o _ => 5 - slLen o)
                case atStart => exact ⟨xs, m + 2 + 2, rg, oc1, by omega, Nat.le_refl _, by omega, rfl, hrx, HS11.out, HX.out⟩
                case round =>
                  clear HS11 HX
                  obtain ⟨ys, mm, g5, c5, hy4, hxy, hmm, rfl, hg5, HS, HX⟩ := hrel
                  have hxbl : xb < wr.heap.size := World.block_lt_of_cell? _ ⟨xb, 0, none⟩ HX.out.1
                  have H20 := Lib.hid (pick_any b mm v 2 wr HS.out.cur.1 HS.out.cur.2.1 (by omega) (by omega))
                  go_wp2_with fail
                  go_at_call 70
                  refine H20.out.mono ?_
                  rintro e w13 ⟨⟨r, rfl, r0, r1⟩, hp⟩
                  have r2 := r1 (by omega)
                  have HS13 := Lib.hid (HS.out.cur' hp)
                  have HX13 : Hid (w13.cell? ⟨xb, 0, none⟩ = some (.int .i64 xl) ∧ w13.cell? ⟨xb, 1, none⟩ = some (.int .i64 xo) ∧ (∀ o, w13.frozen? ⟨xb, o, none⟩ = false)) := ⟨hp.2.2.cell HX.out.1 (by simp; omega), hp.2.2.cell HX.out.2.1 (by simp; omega), fun o => by rw [World.frozen?_of_block (a := ⟨xb, o, none⟩) (hp.2.2.block xb hxbl (by simp; omega))]; exact HX.out.2.2 o⟩
                  have hxbl3 : xb < w13.heap.size := World.block_lt_of_cell? _ ⟨xb, 0, none⟩ HX13.out.1
                  have hw3r : IntKind.i64.wrap (3 + r) = 3 + r := IntWalk.i64_in _ (by omega)
                  clear hp H20 HS HX hxbl r1
                  by_cases hlt5 : (ys.length : Int) < 3 + r
                  · have hd5 : decide ((ys.length : Int) < 3 + r) = true := decide_eq_true hlt5
                    have x0 := HX13.out.1
                    have x1 := HX13.out.2.1
                    have hlB := HS13.out.lB
                    go_wp2_with (at_builtin; refine wpList_append_own_at _ rfl _ _ 28 rfl B 45 iP (.agg #[.int .i64 0, .int .i64 0]) 2 16 Try.underlying28 hiP hzP0 hzP1 hzP2 rfl (by decide) _ _ _ rfl (HS13.out.row.alloc _) ⟨w13.heap.size, 0, none⟩ 1 1 [.int .i64 xl, .int .i64 xo] rfl rfl ?c1 ?c2 ?c3 ?c4 ?c5 ?_)
                    try (case c1 => exact patC_one _ ⟨xl, xo⟩ _)
                    case c2 => first | rfl | (intro u hu; simp at hu; rcases hu with rfl | rfl <;> rfl) | simp
                    case c3 => first | omega | (unfold maxLen; omega)
                    try (case c4 => omega)
                    try (case c5 => first | omega | (simp; omega))
                    intro v' w14 hown' hgrow _ hat
                    have HXi5 : PtIn ⟨xl, xo⟩ := HXin.out
                    have HS14 := Lib.hid ((HS13.out.alloc _).app ⟨xl, xo⟩ HXi5 hown' hgrow)
                    obtain ⟨g6, c6, rfl, -, -, hg6, -, -⟩ := own_open hown' (own_someE hown' (by omega))
                    have hg6x : g6 ≠ xb := by
                      rcases hat with h | h
                      · have e : g6 = g5 := by simpa [Value.ownBlock] using h
                        omega
                      · simp [Value.ownBlock] at h
                        omega
                    have hgx : (some xb) ≠ Value.ownBlock (.slice (some ⟨g5, 0, none⟩) ys.length c5) := fun e => by simp [Value.ownBlock] at e; omega
                    have HX14 : Hid (w14.cell? ⟨xb, 0, none⟩ = some (.int .i64 xl) ∧ w14.cell? ⟨xb, 1, none⟩ = some (.int .i64 xo) ∧ (∀ o, w14.frozen? ⟨xb, o, none⟩ = false)) := ⟨hgrow.cell (acell x0 _) hgx, hgrow.cell (acell x1 _) hgx, fun o => by
                      rw [World.frozen?_of_block (a := ⟨xb, o, none⟩) (hgrow.block xb (by simp; omega) hgx), World.frozen?_of_block (a := ⟨xb, o, none⟩) (Below.heap_alloc _ _ _ hxbl3)]; exact HX13.out.2.2 o⟩
                    clear hown' hgrow hat HS13 HX13 x0 x1
                    go_wp2_with fail
                    go_roundw
                    case rel => exact ⟨ys ++ [⟨xl, xo⟩], mm + 2, g6, c6, by simp; omega, by simp; omega, by simp; omega, by simp, hg6x, HS14, HX14⟩
                    case measure => simp [slLen] <;> omega
                  · have hd5 : decide ((ys.length : Int) < 3 + r) = false := decide_eq_false hlt5
                    have HX := HX13
                    have HXi : Hid (PtIn ⟨xl, xo⟩) := HXin.out
                    clear HX13
                    have hjx : j < (ys).length := by first | omega | (simp; omega)
                    obtain ⟨x0, x1, xf⟩ := HX.out
                    have hyc0 : w13.cell? ⟨g5, j * 2, none⟩ = some ((patC (ys))[j * 2]'(by rw [patC_len]; omega)) := by
                      have h := HS13.out.row.cellAt (j * 2) (by omega)
                      rw [h]; exact List.getElem?_eq_getElem _
                    have hyc1 : w13.cell? ⟨g5, j * 2 + 1, none⟩ = some ((patC (ys))[j * 2 + 1]'(by rw [patC_len]; omega)) := by
                      have h := HS13.out.row.cellAt (j * 2 + 1) (by omega)
                      rw [h]; exact List.getElem?_eq_getElem _
                    have hyf := fun o => HS13.out.row.frozenAt o
                    have HSf := Lib.hid (HS13.out.setAt j hjx ⟨xl, xo⟩ HXi.out)
                    generalize (patC (ys))[j * 2]'_ = old0 at *
                    generalize (patC (ys))[j * 2 + 1]'_ = old1 at *
                    have hji : (j : Int) < ((ys).length : Int) := by omega
                    have hlBe := HS13.out.lB
                    have hj0 : (0 : Int) ≤ (j : Int) := by omega
                    clear HS13 HX HXi
                    obtain ⟨fc, fnet, frow⟩ := HSf.out.fin (.slice a d.stops.length c) (.slice oa d.lines.length oc)
                    have HF := Lib.hid (And.intro fc (And.intro fnet frow))
                    have hlB := HSf.out.lB
                    have hcm := HSf.out.cur.2.2.size
                    have z0 := HSf.out.z0
                    have z1 := HSf.out.z1
                    have zf := HSf.out.zf
                    have c0 := HSf.out.c0
                    have c1 := HSf.out.c1
                    have HOk := Lib.hid HSf.out.ok
                    clear fc fnet frow HSf
                    go_wp2_with fail
                    exact bodyPost_ret (v := .tuple #[.agg #[.slice a d.stops.length c, .slice oa d.lines.length oc], .int .i64 p, .slice (some ⟨g5, 0, none⟩) (ys).length c5]) (by simp only [results, Try.results69]; go_simp) rfl ⟨⟨d, a, c, oa, oc, p, (ys).set j ⟨xl, xo⟩, (some ⟨g5, 0, none⟩), c5, by rw [List.length_set], HD.out.1, HD.out.2.1, HD.out.2.2, by omega, by simp <;> omega, HOk.out, HF.out.2.1.base (Nat.le_refl _) (by simp [World.setCell]; omega), by have h := own_base HF.out.2.2 (show w.heap.size + 1 ≤ B by omega); rw [List.length_set] at h ⊢; exact h⟩, curPost_mono HF.out.1 (by omega)⟩
              · have e3 : (r12 == 3) = false := by simp [h3]
                clear h0 h1 h2 h3
                have HXi : Hid (PtIn ⟨xl, xo⟩) := HXin.out
                have hjx : j < (xs).length := by first | omega | (simp; omega)
                obtain ⟨x0, x1, xf⟩ := HX.out
                have hyc0 : w11.cell? ⟨rg, j * 2, none⟩ = some ((patC (xs))[j * 2]'(by rw [patC_len]; omega)) := by
                  have h := HS11.out.row.cellAt (j * 2) (by omega)
                  rw [h]; exact List.getElem?_eq_getElem _
                have hyc1 : w11.cell? ⟨rg, j * 2 + 1, none⟩ = some ((patC (xs))[j * 2 + 1]'(by rw [patC_len]; omega)) := by
                  have h := HS11.out.row.cellAt (j * 2 + 1) (by omega)
                  rw [h]; exact List.getElem?_eq_getElem _
                have hyf := fun o => HS11.out.row.frozenAt o
                have HSf := Lib.hid (HS11.out.setAt j hjx ⟨xl, xo⟩ HXi.out)
                generalize (patC (xs))[j * 2]'_ = old0 at *
                generalize (patC (xs))[j * 2 + 1]'_ = old1 at *
                have hji : (j : Int) < ((xs).length : Int) := by omega
                have hlBe := HS11.out.lB
                have hj0 : (0 : Int) ≤ (j : Int) := by omega
                clear HS11 HX HXi
                obtain ⟨fc, fnet, frow⟩ := HSf.out.fin (.slice a d.stops.length c) (.slice oa d.lines.length oc)
                have HF := Lib.hid (And.intro fc (And.intro fnet frow))
                have hlB := HSf.out.lB
                have hcm := HSf.out.cur.2.2.size
                have z0 := HSf.out.z0
                have z1 := HSf.out.z1
                have zf := HSf.out.zf
                have c0 := HSf.out.c0
                have c1 := HSf.out.c1
                have HOk := Lib.hid HSf.out.ok
                clear fc fnet frow HSf
                go_wp2_with fail
                exact bodyPost_ret (v := .tuple #[.agg #[.slice a d.stops.length c, .slice oa d.lines.length oc], .int .i64 p, .slice (some ⟨rg, 0, none⟩) (xs).length oc1]) (by simp only [results, Try.results69]; go_simp) rfl ⟨⟨d, a, c, oa, oc, p, (xs).set j ⟨xl, xo⟩, (some ⟨rg, 0, none⟩), oc1, by rw [List.length_set], HD.out.1, HD.out.2.1, HD.out.2.2, by omega, by simp <;> omega, HOk.out, HF.out.2.1.base (Nat.le_refl _) (by simp [World.setCell]; omega), by have h := own_base HF.out.2.2 (show w.heap.size + 1 ≤ B by omega); rw [List.length_set] at h ⊢; exact h⟩, curPost_mono HF.out.1 (by omega)⟩
  · have hdl : ¬ (0 : Int) < (d.lines.length : Int) := by omega
    have hd0 : decide ((0 : Int) < (d.lines.length : Int)) = false := decide_eq_false hdl
    have hk1 : (0 : Int) < ((k0 + 1 : Nat) : Int) := by omega
    have hk1' : (0 : Int) < (k0 : Int) + 1 := by omega
    have c1 := HS5.out.c1
    go_wp2_with fail
    go_loop [9, 10] (fun o q0 => o = .slice (some ⟨w3.heap.size, 0, none⟩) 0 0 ∧ q0 = .int .i64 ((k0 + 1 : Nat) : Int)) (fun _ _ => 0)
    case atStart => exact ⟨rfl, rfl⟩
    case round =>
      obtain ⟨rfl, rfl⟩ := hrel
      clear c1
      obtain ⟨fc, fnet, frow⟩ := HS5.out.fin (.slice a d.stops.length c) (.slice oa d.lines.length oc)
      have HF := Lib.hid (And.intro fc (And.intro fnet frow))
      have hlB := HS5.out.lB
      have hcm := HS5.out.cur.2.2.size
      have z0 := HS5.out.z0
      have z1 := HS5.out.z1
      have zf := HS5.out.zf
      have c0 := HS5.out.c0
      have c1 := HS5.out.c1
      have HOk := Lib.hid HS5.out.ok
      clear fc fnet frow HS5
      go_wp2_with fail
      exact bodyPost_ret (v := .tuple #[.agg #[.slice a d.stops.length c, .slice oa d.lines.length oc], .int .i64 p, .slice (some ⟨w3.heap.size, 0, none⟩) 0 0]) (by simp only [results, Try.results69]; go_simp) rfl ⟨⟨d, a, c, oa, oc, p, [], (some ⟨w3.heap.size, 0, none⟩), 0, rfl, HD.out.1, HD.out.2.1, HD.out.2.2, by omega, by simp <;> omega, HOk.out, HF.out.2.1.base (Nat.le_refl _) (by simp [World.setCell]; omega), own_base HF.out.2.2 (show w.heap.size + 1 ≤ B by omega)⟩, curPost_mono HF.out.1 (by omega)⟩
end Go.Proofs.Ytfgkfdkdjegaiaa

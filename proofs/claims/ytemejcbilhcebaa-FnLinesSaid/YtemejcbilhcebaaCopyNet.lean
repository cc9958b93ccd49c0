import Derived.Test.YtemejcbilhcebaaCopyLine
import Derived.Test.YtemejcbilhcebaaMk19
import Derived.OrdersHeld
import Derived.Deep.RegionHeld
namespace Go.Proofs.Ytemejcbilhcebaa
open Go.RowKit
set_option linter.unusedVariables false

theorem run_make_lines (n : Nat) (h : n ≤ 1048576) (w : World) : (Instr.makeSlice 25 (.int .i64 (n : Int)) (.int .i64 (n : Int))).run Try.prog w =
    .ok (.slice (some ⟨w.heap.size, 0, none⟩) n n) (w.alloc (.cells (madeCells #[.string ByteArray.empty, .slice none 0 0, .slice none 0 0] (n * 3)) 36)) := by
  obtain ⟨i, hi, hz0, hz1, hz2⟩ := info_parts infoLine
  have hr := run_make (P := Try.prog) w 25 36 i _ Try.underlying25 hi hz0 .i64 .i64 n n (by omega) (Int.le_refl _) (by rw [hz2]; omega) (by omega)
  simp only [Int.toNat_natCast, hz1] at hr
  exact hr
theorem infoStr1 : (Try.prog.info? 9).map (fun i => (i.zero, i.size, i.bytes)) = some (some (.string ByteArray.empty), 1, 16) := by kernel_rfl

theorem set_otherB {w : World} {b b' i o : Nat} {u : Value} (h : b' ≠ b) : (w.setCell ⟨b, i, none⟩ u).cell? ⟨b', o, none⟩ = w.cell? ⟨b', o, none⟩ :=
  World.cell?_setCell_other _ _ _ _ (fun e => h (congrArg Addr.block e).symm)

set_option maxRecDepth 100000 in
set_option maxHeartbeats 8000000 in
theorem copyNetworkO_any (v : Value) (n : NetD) (w : World) (hr : NetAt w v n) (hg : NetGood n) :
    Calls Try.prog 45 #[v] w fun e w' => ∃ gs gl, e = .returned (.agg #[.slice (some ⟨gs, 0, none⟩) n.stops.length n.stops.length, .slice (some ⟨gl, 0, none⟩) n.lines.length n.lines.length]) ∧
      w'.ownsRow w.heap.size 9 1 (.slice (some ⟨gs, 0, none⟩) n.stops.length n.stops.length) n.stops.length (strs n.stops) ∧ LinesOwn w.heap.size w' (.slice (some ⟨gl, 0, none⟩) n.lines.length n.lines.length) n.lines ∧ LinesClear w' (.slice (some ⟨gl, 0, none⟩) n.lines.length n.lines.length) gs ∧ Below w.heap.size w w' := by
  have HAt := Lib.hid hr
  obtain ⟨sa, sc, la, lc, rfl, hss, hll⟩ := net_open hr
  have HG := Lib.hid hg
  obtain ⟨hn1, hn2, hn3, hn4⟩ := hg.1
  obtain ⟨_, _, he, hsc, hsm, HS⟩ := strs_open hss
  simp at he
  obtain ⟨rfl, rfl⟩ := he
  obtain ⟨sb, so, rfl, hsb, -⟩ := HS.out 0 (by omega)
  obtain ⟨_, _, he, hlc, hlm, HL⟩ := lines_open hll
  simp at he
  obtain ⟨rfl, rfl⟩ := he
  obtain ⟨lb, lo, rfl, hlb, -⟩ := HL.out 0 (by omega)
  have hmk1 := fun w => run_make_row' (P := Try.prog) 24 9 (.string ByteArray.empty) 16 Try.underlying24 infoStr1 rfl .i64 .i64 n.stops.length (by omega) (by omega) w
  have hmk2 := fun w => run_make_lines n.lines.length (by omega) w
  have HSr := Lib.hid hss
  clear hss hll hr hg
  go_enter Try.func45, Try.ntmps45
  go_wp2_with fail
  go_upto_region 1 with fail
  go_cut [3] (fun s3 wx => ∃ cb g1 g2 : Nat, s3 = .pointer (some ⟨cb, 0, none⟩) ∧
    Hid (CopyBox w (.cells #[.slice (some ⟨sb, so, none⟩) n.stops.length sc, .slice (some ⟨lb, lo, none⟩) n.lines.length lc] 27 (0, 0)) (.cells #[.slice none 0 0, .slice none 0 0] 27 (0, 0))
      (.cells #[.slice (some ⟨g1, 0, none⟩) n.stops.length n.stops.length, .slice (some ⟨g2, 0, none⟩) n.lines.length n.lines.length] 27 (0, 0)) (.cells (madeCells #[.string ByteArray.empty] n.stops.length) 9 (0, 0)) (.cells (madeCells #[.string ByteArray.empty, .slice none 0 0, .slice none 0 0] (n.lines.length * 3)) 36 (0, 0)) cb g1 g2 wx))
  case first =>
    go_region
    all_goals go_wp2_with fail
    all_goals go_meet
    all_goals first
      | exact ⟨_, _, _, rfl, cb012 ..⟩
      | exact ⟨_, _, _, rfl, cb021 ..⟩
      | exact ⟨_, _, _, rfl, cb102 ..⟩
      | exact ⟨_, _, _, rfl, cb120 ..⟩
      | exact ⟨_, _, _, rfl, cb201 ..⟩
      | exact ⟨_, _, _, rfl, cb210 ..⟩
  case rest =>
    obtain ⟨cb, g1, g2, rfl, HC⟩ := hcut
    obtain ⟨h0, h1, hc, hg1, hg2, ⟨n1, n2, n3⟩, ⟨m0, m1, m2⟩, hbel⟩ := HC.out
    have c0 : wc.cell? ⟨cb, 0, none⟩ = some (.slice (some ⟨g1, 0, none⟩) n.stops.length n.stops.length) := cell_heap hc rfl
    have c1 : wc.cell? ⟨cb, 1, none⟩ = some (.slice (some ⟨g2, 0, none⟩) n.lines.length n.lines.length) := cell_heap hc rfl
    have b0 : wc.cell? ⟨w.heap.size, 0, none⟩ = some (.slice (some ⟨sb, so, none⟩) n.stops.length sc) := cell_heap h0 rfl
    have b1 : wc.cell? ⟨w.heap.size, 1, none⟩ = some (.slice (some ⟨lb, lo, none⟩) n.lines.length lc) := cell_heap h0 rfl
    go_wp2_with (with_reducible refine wpList_copy_fresh rfl _ _ 24 24 rfl 9 Try.underlying24 (by kernel_rfl) g1 n.stops.length n.stops.length ⟨sb, so, none⟩ sc rfl rfl (madeCells #[.string ByteArray.empty] n.stops.length) 9 hg1 (strs n.stops) (strs_len _) (size_madeCells _ _) ?c1 ?c2 ?_)
    case c1 =>
      intro j u hu
      obtain ⟨_, _, he, _, _, hcell⟩ := HSr.out
      simp [strs_len] at he
      obtain ⟨rfl, rfl⟩ := he
      obtain ⟨b', o', he, hlt, hc'⟩ := hcell j u hu
      simp at he
      obtain ⟨rfl, rfl⟩ := he
      rw [addr_add]
      exact bkeep hbel hc'
    case c2 => intro u hu; obtain ⟨z, _, rfl⟩ := List.mem_map.1 hu; rfl
    intro w3 k1 ko kz kb
    have c0' := (World.cell?_of_block (a := ⟨cb, 0, none⟩) (ko cb n1)).trans c0
    have c1' := (World.cell?_of_block (a := ⟨cb, 1, none⟩) (ko cb n1)).trans c1
    have b1' := (World.cell?_of_block (a := ⟨w.heap.size, 1, none⟩) (ko w.heap.size (by omega))).trans b1
    have hg2' := (ko g2 (fun e => n3 e.symm)).trans hg2
    have hbel' := kb _ _ hbel (by omega)
    have hR1 := (ko (w.heap.size + 1) (by omega)).trans h1
    have hz1 := (Array.getElem?_eq_some_iff.1 k1).1
    have hz2 := (Array.getElem?_eq_some_iff.1 hg2').1
    have hz3 := World.block_lt_of_cell? _ _ c0'
    have HK : Hid (w3.heap[g1]? = some (.cells (strs n.stops).toArray 9 (0, 0)) ∧ w3.heap[w.heap.size + 1]? = some (.cells #[.slice none 0 0, .slice none 0 0] 27 (0, 0)) ∧ Below w.heap.size w w3 ∧ g1 < w3.heap.size ∧ g2 < w3.heap.size ∧ cb < w3.heap.size) := ⟨k1, hR1, hbel', hz1, hz2, hz3⟩
    have HO : Hid (w3.ownsRow w.heap.size 36 3 (.slice (some ⟨g2, 0, none⟩) n.lines.length n.lines.length) n.lines.length (madeCells #[.string ByteArray.empty, .slice none 0 0, .slice none 0 0] (n.lines.length * 3)).toList) :=
      own_block_mk (by omega) (by simpa using hg2') (by unfold maxLen; omega) (by rw [Array.length_toList, size_madeCells])
    clear c0 c1 b0 b1 hg1 hg2 hc h0 h1 ko kz kb hbel HC hg2' k1 hR1 hbel'

    go_wp2_with fail
    go_loopw [23] (fun q wr => ∃ k : Nat, k ≤ n.lines.length ∧ q = .int .i64 k ∧ (∃ zs, Hid (wr.ownsRow w.heap.size 36 3 (.slice (some ⟨g2, 0, none⟩) n.lines.length n.lines.length) n.lines.length zs)) ∧
        Hid (∀ j (hj : j < n.lines.length), j < k → LineOwn w3.heap.size wr g2 (j * 3) n.lines[j]) ∧ Hid (RowsApart wr g2 k) ∧ Hid (wr.heap[g1]? = some (.cells (strs n.stops).toArray 9 (0, 0)) ∧ wr.heap[w.heap.size + 1]? = some (.cells #[.slice none 0 0, .slice none 0 0] 27 (0, 0))) ∧
        wr.cell? ⟨cb, 0, none⟩ = some (.slice (some ⟨g1, 0, none⟩) n.stops.length n.stops.length) ∧ wr.cell? ⟨cb, 1, none⟩ = some (.slice (some ⟨g2, 0, none⟩) n.lines.length n.lines.length) ∧ Hid (Below w.heap.size w wr ∧ w3.heap.size ≤ wr.heap.size))
      (fun q _ => n.lines.length - (RowKit.intOf q).toNat)
    case atStart => exact ⟨0, Nat.zero_le _, rfl, ⟨_, HO⟩, (fun j hj h => by omega), (fun j i j' i' v v' h => by omega), ⟨HK.out.1, HK.out.2.1⟩, c0', c1', ⟨HK.out.2.2.1, Nat.le_refl _⟩⟩
    case round =>
      clear c0' c1' HO
      obtain ⟨k, hk, rfl, ⟨zs, HO⟩, HT, HAp, HX, p0, p1, HB⟩ := hrel
      by_cases hlt : k < n.lines.length
      · obtain ⟨lb', lo', s0, s1, r0, r1, he, hlb', x0, x1, x2, hrs, hrr⟩ := net_line HAt.out k hlt
        simp at he
        obtain ⟨rfl, rfl⟩ := he
        have hfa := line_facts HG.out k hlt
        have hli := (good_line HG.out k hlt).2.1
        have HCp := Lib.hid (fun W (hW : Below w.heap.size w W) => copyLine_any _ n.lines[k] W (show LineV W (.agg #[.string n.lines[k].name, .slice s0 n.lines[k].stops.length s1, .slice r0 n.lines[k].runs.length r1]) n.lines[k] from ⟨_, _, rfl, hrs.below rfl hW, hrr.below rfl hW⟩) (by omega) (by omega) (by omega) (by omega))
        have y0 := bkeep HB.out.1 x0
        have y1 := bkeep HB.out.1 x1
        have y2 := bkeep HB.out.1 x2
        have hk1 : (k : Int) < (n.lines.length : Int) := by omega
        have hk0 : (0 : Int) ≤ (k : Int) := by omega
        have hcl := World.block_lt_of_cell? _ _ p1
        have HBa : Hid (∀ o, Below w.heap.size w (wr.alloc o)) := fun o => HB.out.1.alloc HB.out.1.size o
        clear x0 x1 x2 hrs hrr hfa hli
        go_wp2_with fail
        refine wp_region_held_drew (S := fun w' => w'.cell? ⟨cb, 1, none⟩ = some (.slice (some ⟨g2, 0, none⟩) n.lines.length n.lines.length) ∧ w'.cell? ⟨wr.heap.size, 0, none⟩ = some (.string n.lines[k].name) ∧ w'.cell? ⟨wr.heap.size, 1, none⟩ = some (.slice s0 n.lines[k].stops.length s1) ∧ w'.cell? ⟨wr.heap.size, 2, none⟩ = some (.slice r0 n.lines[k].runs.length r1) ∧ wr.heap.size + 1 ≤ w'.heap.size) (by kernel_rfl) ?_ (fun hHeld => ?_)
        · exact ⟨acell p1 _, by go_simp, by go_simp, by go_simp, by show wr.heap.size + 1 ≤ (wr.alloc _).heap.size; simp⟩
        refine wpAnyH_take (i := 0) (v := ?_) (by simp only [List.getElem?_toArray, List.getElem?_cons_zero]; rfl) (by kernel_rfl) (by kernel_rfl) (by kernel_rfl) (by exact fun _ _ _ h => h) (Or.inl ⟨by rfl, ?_⟩) (by assumption) ?_
        rotate_left
        · intro w' hSw; obtain ⟨e1, e2, e3, e4, _⟩ := hSw
          go_simp; try with_reducible rfl
        try simp only [Act.put, List.setIfInBounds_toArray, List.set_cons_zero, List.set_cons_succ]
        refine wpAnyH_take (i := 1) (v := ?_) (by simp only [List.getElem?_toArray, List.getElem?_cons_succ, List.getElem?_cons_zero]; rfl) (by kernel_rfl) (by kernel_rfl) (by kernel_rfl) (by exact fun _ _ _ h => h) (Or.inl ⟨by rfl, ?_⟩) (by assumption) ?_
        rotate_left
        · intro w' hSw; obtain ⟨e1, e2, e3, e4, _⟩ := hSw
          go_simp; try with_reducible rfl
        try simp only [Act.put, List.setIfInBounds_toArray, List.set_cons_zero, List.set_cons_succ]
        refine wpAnyH_take (i := 2) (v := ?_) (by simp only [List.getElem?_toArray, List.getElem?_cons_succ, List.getElem?_cons_zero]; rfl) (by kernel_rfl) (by kernel_rfl) (by kernel_rfl) (by exact fun _ _ _ h => h) (Or.inl ⟨by rfl, ?_⟩) (by assumption) ?_
        rotate_left
        · intro w' hSw; obtain ⟨e1, e2, e3, e4, _⟩ := hSw
          go_simp; try with_reducible rfl
        try simp only [Act.put, List.setIfInBounds_toArray, List.set_cons_zero, List.set_cons_succ]
        refine wpAnyH_take (i := 3) (v := ?_) (by simp only [List.getElem?_toArray, List.getElem?_cons_succ, List.getElem?_cons_zero]; rfl) (by kernel_rfl) (by kernel_rfl) (by kernel_rfl) (by exact fun _ _ _ h => h) (Or.inl ⟨by rfl, ?_⟩) (by assumption) ?_
        rotate_left
        · intro w' hSw; obtain ⟨e1, e2, e3, e4, _⟩ := hSw
          go_simp; try with_reducible rfl
        try simp only [Act.put, List.setIfInBounds_toArray, List.set_cons_zero, List.set_cons_succ]
        refine wpAnyH_ready (rs := [4]) (by kernel_rfl) (by simp) ?_
        refine AllReadyH.cons (by simp only [List.getElem?_toArray, List.getElem?_cons_succ, List.getElem?_cons_zero]; rfl) (fun K hK => ?_) AllReadyH.nil
        go_simp
        go_at_call 46
        refine (HCp.out _ ((HBa.out _).drew)).mono ?_
        rintro e w5 ⟨q1, q2, rfl, ho1, ho2, hne, hb⟩
        have hb5 : Below (wr.alloc (.cells #[.string n.lines[k].name, .slice s0 n.lines[k].stops.length s1, .slice r0 n.lines[k].runs.length r1] 36 (0, 0))).heap.size (wr.alloc (.cells #[.string n.lines[k].name, .slice s0 n.lines[k].stops.length s1, .slice r0 n.lines[k].runs.length r1] 36 (0, 0))) w5 := (Below.drew (Below.refl _ _)).trans hb
        go_wp2_with fail
        refine hK.out _ _ ?_ (fun hH4 => ?_)
        · exact ⟨bkeep hb5 (acell p1 _), bkeep hb5 (by go_simp), bkeep hb5 (by go_simp), bkeep hb5 (by go_simp), by have := hb5.size; simpa using this⟩
        clear hK K
        try simp only [Act.put, List.setIfInBounds_toArray, List.set_cons_zero, List.set_cons_succ]
        refine wpAnyH_take (i := 5) (v := ?_) (by simp only [List.getElem?_toArray, List.getElem?_cons_succ, List.getElem?_cons_zero]; rfl) (by kernel_rfl) (by kernel_rfl) (by kernel_rfl) (by exact fun _ _ _ h => h) (Or.inl ⟨by rfl, ?_⟩) (by assumption) ?_
        rotate_left
        · intro w' hSw; obtain ⟨e1, e2, e3, e4, _⟩ := hSw
          go_simp; try with_reducible rfl
        try simp only [Act.put, List.setIfInBounds_toArray, List.set_cons_zero, List.set_cons_succ]
        have hown5 := own_later (HO.out.alloc (.cells #[.string n.lines[k].name, .slice s0 n.lines[k].stops.length s1, .slice r0 n.lines[k].runs.length r1] 36 (0, 0))) hb5
        obtain ⟨zs, hown⟩ : ∃ zs, w5.ownsRow w.heap.size 36 3 (.slice (some ⟨g2, 0, none⟩) n.lines.length n.lines.length) n.lines.length zs := ⟨_, hown5⟩
        have hz : ∀ o, o < n.lines.length * 3 → ∃ u, w5.cell? ⟨g2, o, none⟩ = some u := fun o ho => by
          rw [hown.cellAt o ho]; exact ⟨_, List.getElem?_eq_getElem (by have := hown.1; omega)⟩
        obtain ⟨u0, x0⟩ := hz (k * 3) (by omega)
        obtain ⟨u1, x1⟩ := hz (k * 3 + 1) (by omega)
        obtain ⟨u2, x2⟩ := hz (k * 3 + 2) (by omega)
        have hf := fun o => hown.frozenAt o
        have hbw : Below wr.heap.size wr w5 := ((Below.refl _ _).alloc (Nat.le_refl _) (.cells #[.string n.lines[k].name, .slice s0 n.lines[k].stops.length s1, .slice r0 n.lines[k].runs.length r1] 36 (0, 0))).trans (hb5.mono (by simp))
        have hz5 := hbw.size
        have hq1 : wr.heap.size + 1 ≤ q1 := by have := (ho1.lt q1 rfl).1; show (wr.heap.size + 1 ≤ q1); have h2 : (wr.alloc (.cells #[.string n.lines[k].name, .slice s0 n.lines[k].stops.length s1, .slice r0 n.lines[k].runs.length r1] 36 (0, 0))).heap.size ≤ q1 := this; simpa using h2
        have hq2 : wr.heap.size + 1 ≤ q2 := by have := (ho2.lt q2 rfl).1; have h2 : (wr.alloc (.cells #[.string n.lines[k].name, .slice s0 n.lines[k].stops.length s1, .slice r0 n.lines[k].runs.length r1] 36 (0, 0))).heap.size ≤ q2 := this; simpa using h2
        have hg2r : g2 < wr.heap.size := by have := HK.out.2.2.2.2.1; have := HB.out.2; omega
        have hg1r : g1 < wr.heap.size := by have := HK.out.2.2.2.1; have := HB.out.2; omega
        have hcbr : cb < wr.heap.size := by have := HK.out.2.2.2.2.2; have := HB.out.2; omega
        have hne1 : (Value.slice (some ⟨q1, 0, none⟩) n.lines[k].stops.length n.lines[k].stops.length).ownBlock ≠ some g2 := fun e => by simp [Value.ownBlock] at e; omega
        have hne2 : (Value.slice (some ⟨q2, 0, none⟩) n.lines[k].runs.length n.lines[k].runs.length).ownBlock ≠ some g2 := fun e => by simp [Value.ownBlock] at e; omega
        have hb35 : w3.heap.size ≤ (wr.alloc (.cells #[.string n.lines[k].name, .slice s0 n.lines[k].stops.length s1, .slice r0 n.lines[k].runs.length r1] 36 (0, 0))).heap.size := by have := HB.out.2; simp; omega
        have HNew := Lib.hid (lineOwn_new x0 x1 x2 (own_base ho1 hb35) (own_base ho2 hb35) hne1 hne2)
        have HOwn2 := Lib.hid ((((hown.stored (k * 3) (.string n.lines[k].name)).1.stored (k * 3 + 1) (.slice (some ⟨q1, 0, none⟩) n.lines[k].stops.length n.lines[k].stops.length)).1.stored (k * 3 + 2) (.slice (some ⟨q2, 0, none⟩) n.lines[k].runs.length n.lines[k].runs.length)).1)
        have HOld : Hid (∀ j (hj : j < n.lines.length), j < k → LineOwn w3.heap.size (((w5.setCell ⟨g2, k * 3, none⟩ (.string n.lines[k].name)).setCell ⟨g2, k * 3 + 1, none⟩ (.slice (some ⟨q1, 0, none⟩) n.lines[k].stops.length n.lines[k].stops.length)).setCell ⟨g2, k * 3 + 2, none⟩ (.slice (some ⟨q2, 0, none⟩) n.lines[k].runs.length n.lines[k].runs.length)) g2 (j * 3) n.lines[j]) := fun j hj hjk =>
          ((((HT.out j hj hjk).later hbw).set _ _ (by omega) (by omega) (by omega)).set _ _ (by omega) (by omega) (by omega)).set _ _ (by omega) (by omega) (by omega)
        have HAp2 := Lib.hid (apart_step2 (g1 := q1) (g2 := q2) (nm := .string n.lines[k].name) (sv := .slice (some ⟨q1, 0, none⟩) n.lines[k].stops.length n.lines[k].stops.length) (rv := .slice (some ⟨q2, 0, none⟩) n.lines[k].runs.length n.lines[k].runs.length) HAp.out (fun j hj => ⟨_, HT.out j (by omega) hj⟩) hbw hg2r x0 x1 x2 rfl rfl (by omega) (by omega) hne)
        have hset : ∀ (W : World) (u0 u1 u2 : Value) (q : Nat), q ≠ g2 → (((W.setCell ⟨g2, k * 3, none⟩ u0).setCell ⟨g2, k * 3 + 1, none⟩ u1).setCell ⟨g2, k * 3 + 2, none⟩ u2).heap[q]? = W.heap[q]? := fun W u0 u1 u2 q hq => by
          rw [Below.heap_setCell _ _ _ _ (fun e => hq e.symm.symm), Below.heap_setCell _ _ _ _ (fun e => hq e.symm.symm), Below.heap_setCell _ _ _ _ (fun e => hq e.symm.symm)]
        have hp0 := bkeep hbw p0
        have hp1 := bkeep hbw p1
        have HX2 : Hid (∀ u0 u1 u2 : Value, (((w5.setCell ⟨g2, k * 3, none⟩ u0).setCell ⟨g2, k * 3 + 1, none⟩ u1).setCell ⟨g2, k * 3 + 2, none⟩ u2).heap[g1]? = some (.cells (strs n.stops).toArray 9 (0, 0)) ∧ (((w5.setCell ⟨g2, k * 3, none⟩ u0).setCell ⟨g2, k * 3 + 1, none⟩ u1).setCell ⟨g2, k * 3 + 2, none⟩ u2).heap[w.heap.size + 1]? = some (.cells #[.slice none 0 0, .slice none 0 0] 27 (0, 0)) ∧
            (((w5.setCell ⟨g2, k * 3, none⟩ u0).setCell ⟨g2, k * 3 + 1, none⟩ u1).setCell ⟨g2, k * 3 + 2, none⟩ u2).cell? ⟨cb, 0, none⟩ = some (.slice (some ⟨g1, 0, none⟩) n.stops.length n.stops.length) ∧ (((w5.setCell ⟨g2, k * 3, none⟩ u0).setCell ⟨g2, k * 3 + 1, none⟩ u1).setCell ⟨g2, k * 3 + 2, none⟩ u2).cell? ⟨cb, 1, none⟩ = some (.slice (some ⟨g2, 0, none⟩) n.lines.length n.lines.length)) := fun u0 u1 u2 =>
          ⟨(hset _ _ _ _ _ n3).trans ((hbw.block g1 hg1r).trans HX.out.1), (hset _ _ _ _ _ (by omega)).trans ((hbw.block _ (by omega)).trans HX.out.2), (World.cell?_of_block (a := ⟨cb, 0, none⟩) (hset _ _ _ _ _ n2)).trans hp0, (World.cell?_of_block (a := ⟨cb, 1, none⟩) (hset _ _ _ _ _ n2)).trans hp1⟩
        have HB2 : Hid (∀ u0 u1 u2 : Value, Below w.heap.size w (((w5.setCell ⟨g2, k * 3, none⟩ u0).setCell ⟨g2, k * 3 + 1, none⟩ u1).setCell ⟨g2, k * 3 + 2, none⟩ u2)) := fun u0 u1 u2 => (((HB.out.1.trans (hbw.mono HB.out.1.size)).setCell (p := ⟨g2, _, none⟩) (by show w.heap.size ≤ g2; omega) _).setCell (p := ⟨g2, _, none⟩) (by show w.heap.size ≤ g2; omega) _).setCell (p := ⟨g2, _, none⟩) (by show w.heap.size ≤ g2; omega) _
        have hz6 : w3.heap.size ≤ w5.heap.size := by have := HB.out.2; omega
        clear hset hown5 ho1 ho2 hne1 hne2 hbw hb5 hb hb35
        refine wpAnyH_ready (rs := [6]) (by kernel_rfl) (by simp) ?_
        refine AllReadyH.cons (by simp only [List.getElem?_toArray, List.getElem?_cons_succ, List.getElem?_cons_zero]; rfl) (fun K hK => ?_) AllReadyH.nil
        go_simp
        refine hK.out _ _ ?_ (fun hH6 => ?_)
        · exact ⟨(HX2.out _ _ _).2.2.2, (set_otherB (by omega)).trans ((set_otherB (by omega)).trans ((set_otherB (by omega)).trans hH4.2.1)), (set_otherB (by omega)).trans ((set_otherB (by omega)).trans ((set_otherB (by omega)).trans hH4.2.2.1)), (set_otherB (by omega)).trans ((set_otherB (by omega)).trans ((set_otherB (by omega)).trans hH4.2.2.2.1)), by simp [World.setCell]; omega⟩
        clear hK K
        try simp only [Act.put, List.setIfInBounds_toArray, List.set_cons_zero, List.set_cons_succ]
        refine wpAnyH_done (by kernel_rfl) ?_ _
        go_wp2_with fail
        go_roundw
        case rel =>
          refine ⟨k + 1, by omega, by go_num, ⟨_, HOwn2⟩, fun j hj hjk => ?_, HAp2.out, ⟨(HX2.out _ _ _).1, (HX2.out _ _ _).2.1⟩, (HX2.out _ _ _).2.2.1, (HX2.out _ _ _).2.2.2, ⟨HB2.out _ _ _, by simp [World.setCell]; omega⟩⟩
          by_cases e : j = k
          · subst e; exact HNew.out
          · exact HOld.out j hj (by omega)
        case measure => simp [RowKit.intOf]; omega
      · obtain rfl : k = n.lines.length := by omega
        have hlt1 : ¬ (n.lines.length : Int) < (n.lines.length : Int) := by omega
        have r0 : wr.cell? ⟨w.heap.size + 1, 0, none⟩ = some (.slice none 0 0) := cell_heap HX.out.2 rfl
        have r1 : wr.cell? ⟨w.heap.size + 1, 1, none⟩ = some (.slice none 0 0) := cell_heap HX.out.2 rfl
        have hfz : ∀ o, wr.frozen? ⟨w.heap.size + 1, o, none⟩ = false := fun o => by simp [World.frozen?, HX.out.2]
        have HS2 : Hid (wr.ownsRow (w.heap.size + 2) 9 1 (.slice (some ⟨g1, 0, none⟩) n.stops.length n.stops.length) n.stops.length (strs n.stops) ∧ LinesOwn (w.heap.size + 2) wr (.slice (some ⟨g2, 0, none⟩) n.lines.length n.lines.length) n.lines ∧ LinesClear wr (.slice (some ⟨g2, 0, none⟩) n.lines.length n.lines.length) g1 ∧ g2 < wr.heap.size) := by
          obtain ⟨_, h2⟩ := HO.out
          rcases h2 with ⟨hv, _⟩ | ⟨g, cap, cur, hv, hg, hh, q1, q2, q3, _⟩
          · simp at hv
          simp at hv
          obtain ⟨rfl, rfl⟩ := hv
          have hgw := (Array.getElem?_eq_some_iff.1 hh).1
          have hall : ∀ j (hj : j < n.lines.length), LineOwn w3.heap.size wr g2 (j * 3) n.lines[j] := fun j hj => HT.out j hj hj
          refine ⟨own_block_mk (by omega) HX.out.1 (by unfold maxLen; omega) (by rw [strs_len]; omega), ⟨g2, n.lines.length, cur, rfl, by omega, hh, Nat.le_refl _, by unfold maxLen; omega, q3, fun j l hl => ?_, HAp.out⟩, ?_, hgw⟩
          · have hj := (List.getElem?_eq_some_iff.1 hl).1
            have he := (List.getElem?_eq_some_iff.1 hl).2
            rw [← he]
            exact (hall j hj).base (by have := HK.out.2.2.1.size; have := HK.out.2.2.2.1; have := HK.out.2.2.2.2; omega)
          · intro g n' c hc
            simp at hc
            obtain ⟨rfl, rfl, rfl⟩ := hc
            refine ⟨n3, fun j i v' hj hi hcell e => ?_⟩
            obtain ⟨sv, rv, y0, y1, y2, o1, o2, _⟩ := hall j hj
            have := HK.out.2.2.2.1
            rcases hi with rfl | rfl
            · rw [y1] at hcell; cases hcell; have := (o1.lt g1 e).1; omega
            · rw [y2] at hcell; cases hcell; have := (o2.lt g1 e).1; omega
        go_wp2_with fail
        refine bodyPost_ret (v := .agg #[.slice (some ⟨g1, 0, none⟩) n.stops.length n.stops.length, .slice (some ⟨g2, 0, none⟩) n.lines.length n.lines.length]) (by simp only [results, Try.results45]; go_simp) rfl ?_
        have hq : ∀ (u0 u1 : Value), Out (w.heap.size + 1) (w.heap.size + 2) wr ((wr.setCell ⟨w.heap.size + 1, 0, none⟩ u0).setCell ⟨w.heap.size + 1, 1, none⟩ u1) := fun u0 u1 => ((Out.refl _ _ _).setCell (p := ⟨_, _, none⟩) (by simp) (by simp) _).setCell (p := ⟨_, _, none⟩) (by simp) (by simp) _
        have hqb : ∀ u0 u1 q, w.heap.size + 2 ≤ q → q < wr.heap.size → ((wr.setCell ⟨w.heap.size + 1, 0, none⟩ u0).setCell ⟨w.heap.size + 1, 1, none⟩ u1).heap[q]? = wr.heap[q]? := fun u0 u1 q h1 h2 => (hq u0 u1).block (.inr (by omega)) h2
        have hg2b : w.heap.size + 2 ≤ g2 := by obtain ⟨g, c, cur, hv, hB, _⟩ := HS2.out.2.1; simp at hv; omega
        refine ⟨g1, g2, rfl, own_base (own_block HS2.out.1 (fun g hg => hqb _ _ g (HS2.out.1.lt g hg).1 (HS2.out.1.lt g hg).2)) (by omega), (HS2.out.2.1.blocks (fun q h1 h2 => hqb _ _ q h1 h2)).base (by omega), fun g n' c hc => ?_, HB.out.1.trans ((hq _ _).below.mono (by omega))⟩
        obtain ⟨e1, e2⟩ := HS2.out.2.2.1 g n' c hc
        simp at hc
        obtain ⟨rfl, rfl, rfl⟩ := hc
        refine ⟨e1, fun j i v' hj hi hcell => e2 j i v' hj hi ?_⟩
        rw [← World.cell?_of_block (w := wr) (a := ⟨g2, j * 3 + i, none⟩) (hqb _ _ g2 hg2b HS2.out.2.2.2)]
        exact hcell
end Go.Proofs.Ytemejcbilhcebaa

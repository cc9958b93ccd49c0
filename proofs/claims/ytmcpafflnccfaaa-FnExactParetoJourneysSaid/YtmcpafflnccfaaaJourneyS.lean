/-
  CONTRACTS of spec.l8Asked, spec.l8Journey and spec.IsValidJourney.
-/
import Derived.Test.YtmcpafflnccfaaaFillLeg
import Derived.Test.YtmcpafflnccfaaaContLeg
namespace Go.Proofs.Ytmcpafflnccfaaa
open Go.RowKit Jrn
set_option linter.unusedVariables false
set_option linter.unusedSimpArgs false

theorem jrn_no {L : List LegD} {ch : Int} {c : List LegD} {k : Nat} (hk : k < c.length) (h : ¬ StepOk L ch c k hk) : jrnB L ch c = false := jrnB_no fun hj => h (hj.2.2 k hk hk)
theorem jrn_len {L : List LegD} {ch : Int} {c : List LegD} (h : ¬ (1 ≤ c.length ∧ c.length ≤ 4)) : jrnB L ch c = false := jrnB_no fun hj => h ⟨hj.1, hj.2.1⟩

set_option maxRecDepth 100000 in
set_option maxHeartbeats 8000000 in
theorem l8Journey_any (v lv : Value) (t : TTD) (ch : Int) (cs : List LegD) (w : World) (hr : TTAt w v t) (hl : LegsAt w lv cs) (hg : TTGood t) (hs : TTSmall t) (hsl : LegsSmall cs) (hc0 : 0 ≤ ch) (hc1 : ch ≤ 30) :
    Calls Try.prog 64 #[v, .int .i64 ch, lv] w fun e w' => e = .returned (.bool (jrnB (allLegs (rides t)) ch cs)) ∧ Below w.heap.size w w' := by
  have HG := Lib.hid hg
  have HFill := Lib.hid (fun x y z W (hW : Below w.heap.size w W) => l8Fill_any v t x y z W (hr.below rfl hW) hg hs)
  have HL := Lib.hid hl
  unfold LegsSmall at hsl
  obtain ⟨a, c, a', c', b, d, rfl, -, -⟩ := tt_open hr
  obtain ⟨la, lc, rfl⟩ := LegS_open hl
  clear hr hl hs hg
  by_cases hlen : 1 ≤ (cs.length : Int) ∧ (cs.length : Int) ≤ 4
  · have hlen4 : cs.length ≤ 4 := by omega
    go_enter Try.func64, Try.ntmps64
    go_wp2_with fail
    go_at_call 66
    refine (l1In_yes _ _ _ _ hlen).mono ?_
    rintro e w1 ⟨rfl, rfl⟩
    go_wp2_with fail
    go_loopw [7] (fun q wr => ∃ k : Nat, k ≤ cs.length ∧ q = .int .i64 k ∧ Hid (StepsTo (allLegs (rides t)) ch cs k) ∧ wr.cell? ⟨w.heap.size, 0, none⟩ = some (.slice a t.net.stops.length c) ∧ wr.cell? ⟨w.heap.size, 1, none⟩ = some (.slice a' t.net.lines.length c') ∧ wr.cell? ⟨w.heap.size, 2, none⟩ = some (.slice b t.trips.length d) ∧ Hid (w.heap.size < wr.heap.size) ∧ Hid (Below w.heap.size w wr)) (fun q _ => cs.length - (RowKit.intOf q).toNat)
    case atStart => exact ⟨0, Nat.zero_le _, rfl, (fun j _ h => by omega), by go_simp, by go_simp, by go_simp, by show _ < _; simp, (Below.refl _ _).alloc (Nat.le_refl _) _⟩
    case round =>
      obtain ⟨wo, rfl⟩ : ∃ wo : World, wo = wr := ⟨_, rfl⟩
      obtain ⟨k, hk, rfl, HSt, p0, p1, p2, hz, HB⟩ := hrel
      by_cases hlt : k < cs.length
      · obtain ⟨g, go, rfl, hgb, y0, y1, y2, -, -⟩ := leg_at (HL.out.below rfl HB.out) k hlt
        have hk1 : (k : Int) < (cs.length : Int) := by omega
        obtain ⟨x, hx⟩ : ∃ x, cs[k] = x := ⟨_, rfl⟩
        simp only [hx] at y0 y1 y2
        have HFl := Lib.hid (HFill.out x.trip x.frm x.dst)
        cases ho : fillF (allLegs (rides t)) x.trip x.frm x.dst with
        | none =>
          have HN : Hid (jrnB (allLegs (rides t)) ch cs = false) := jrn_no hlt fun h => by
            have h1 := fillF_of (rides_ok HG.out) h.1
            rw [hx, ho] at h1; cases h1
          simp only [ho] at HFl
          obtain ⟨y, hy⟩ : ∃ y, legO none = y := ⟨_, rfl⟩
          simp only [hy] at HFl
          unfold legV at HFl
          simp only [Option.isSome_none] at HFl
          clear ho hy
          go_wp2_with fail
          refine wp_region_held_drew (S := (fun w' => w'.cell? ⟨w.heap.size, 0, none⟩ = some (.slice a t.net.stops.length c) ∧ w'.cell? ⟨w.heap.size, 1, none⟩ = some (.slice a' t.net.lines.length c') ∧ w'.cell? ⟨w.heap.size, 2, none⟩ = some (.slice b t.trips.length d) ∧ w'.cell? ⟨g, go + k * 5, none⟩ = some (.int .i64 x.trip) ∧ w'.cell? ⟨g, go + k * 5 + 1, none⟩ = some (.int .i64 x.frm) ∧ w'.cell? ⟨g, go + k * 5 + 2, none⟩ = some (.int .i64 x.dst))) (by kernel_rfl) ?_ (fun hHeld => ?_)
          · exact ⟨p0, p1, p2, y0, y1, y2⟩
          refine wpAnyH_take (i := 0) (v := ?_) (by simp only [List.getElem?_toArray, List.getElem?_cons_zero]; rfl) (by kernel_rfl) (by kernel_rfl) (by kernel_rfl) (by exact fun _ _ _ h => h) (Or.inl ⟨by rfl, ?_⟩) (by assumption) ?_
          rotate_left
          · intro w' hSw; obtain ⟨e0, e1, e2, e3, e4, e5⟩ := hSw
            go_simp; try with_reducible rfl
          try simp only [Act.put, List.setIfInBounds_toArray, List.set_cons_zero, List.set_cons_succ]
          refine wpAnyH_take (i := 1) (v := ?_) (by simp only [List.getElem?_toArray, List.getElem?_cons_succ, List.getElem?_cons_zero]; rfl) (by kernel_rfl) (by kernel_rfl) (by kernel_rfl) (by exact fun _ _ _ h => h) (Or.inl ⟨by rfl, ?_⟩) (by assumption) ?_
          rotate_left
          · intro w' hSw; obtain ⟨e0, e1, e2, e3, e4, e5⟩ := hSw
            go_simp; try with_reducible rfl
          try simp only [Act.put, List.setIfInBounds_toArray, List.set_cons_zero, List.set_cons_succ]
          refine wpAnyH_take (i := 2) (v := ?_) (by simp only [List.getElem?_toArray, List.getElem?_cons_succ, List.getElem?_cons_zero]; rfl) (by kernel_rfl) (by kernel_rfl) (by kernel_rfl) (by exact fun _ _ _ h => h) (Or.inl ⟨by rfl, ?_⟩) (by assumption) ?_
          rotate_left
          · intro w' hSw; obtain ⟨e0, e1, e2, e3, e4, e5⟩ := hSw
            go_simp; try with_reducible rfl
          try simp only [Act.put, List.setIfInBounds_toArray, List.set_cons_zero, List.set_cons_succ]
          refine wpAnyH_take (i := 3) (v := ?_) (by simp only [List.getElem?_toArray, List.getElem?_cons_succ, List.getElem?_cons_zero]; rfl) (by kernel_rfl) (by kernel_rfl) (by kernel_rfl) (by exact fun _ _ _ h => h) (Or.inl ⟨by rfl, ?_⟩) (by assumption) ?_
          rotate_left
          · intro w' hSw; obtain ⟨e0, e1, e2, e3, e4, e5⟩ := hSw
            go_simp; try with_reducible rfl
          try simp only [Act.put, List.setIfInBounds_toArray, List.set_cons_zero, List.set_cons_succ]
          refine wpAnyH_take (i := 4) (v := ?_) (by simp only [List.getElem?_toArray, List.getElem?_cons_succ, List.getElem?_cons_zero]; rfl) (by kernel_rfl) (by kernel_rfl) (by kernel_rfl) (by exact fun _ _ _ h => h) (Or.inl ⟨by rfl, ?_⟩) (by assumption) ?_
          rotate_left
          · intro w' hSw; obtain ⟨e0, e1, e2, e3, e4, e5⟩ := hSw
            go_simp; try with_reducible rfl
          try simp only [Act.put, List.setIfInBounds_toArray, List.set_cons_zero, List.set_cons_succ]
          refine wpAnyH_take (i := 5) (v := ?_) (by simp only [List.getElem?_toArray, List.getElem?_cons_succ, List.getElem?_cons_zero]; rfl) (by kernel_rfl) (by kernel_rfl) (by kernel_rfl) (by exact fun _ _ _ h => h) (Or.inl ⟨by rfl, ?_⟩) (by assumption) ?_
          rotate_left
          · intro w' hSw; obtain ⟨e0, e1, e2, e3, e4, e5⟩ := hSw
            go_simp; try with_reducible rfl
          try simp only [Act.put, List.setIfInBounds_toArray, List.set_cons_zero, List.set_cons_succ]
          refine wpAnyH_take (i := 6) (v := ?_) (by simp only [List.getElem?_toArray, List.getElem?_cons_succ, List.getElem?_cons_zero]; rfl) (by kernel_rfl) (by kernel_rfl) (by kernel_rfl) (by exact fun _ _ _ h => h) (Or.inl ⟨by rfl, ?_⟩) (by assumption) ?_
          rotate_left
          · intro w' hSw; obtain ⟨e0, e1, e2, e3, e4, e5⟩ := hSw
            go_simp; try with_reducible rfl
          try simp only [Act.put, List.setIfInBounds_toArray, List.set_cons_zero, List.set_cons_succ]
          refine wpAnyH_take (i := 7) (v := ?_) (by simp only [List.getElem?_toArray, List.getElem?_cons_succ, List.getElem?_cons_zero]; rfl) (by kernel_rfl) (by kernel_rfl) (by kernel_rfl) (by exact fun _ _ _ h => h) (Or.inl ⟨by rfl, ?_⟩) (by assumption) ?_
          rotate_left
          · intro w' hSw; obtain ⟨e0, e1, e2, e3, e4, e5⟩ := hSw
            go_simp; try with_reducible rfl
          try simp only [Act.put, List.setIfInBounds_toArray, List.set_cons_zero, List.set_cons_succ]
          refine wpAnyH_take (i := 8) (v := ?_) (by simp only [List.getElem?_toArray, List.getElem?_cons_succ, List.getElem?_cons_zero]; rfl) (by kernel_rfl) (by kernel_rfl) (by kernel_rfl) (by exact fun _ _ _ h => h) (Or.inl ⟨by rfl, ?_⟩) (by assumption) ?_
          rotate_left
          · intro w' hSw; obtain ⟨e0, e1, e2, e3, e4, e5⟩ := hSw
            go_simp; try with_reducible rfl
          try simp only [Act.put, List.setIfInBounds_toArray, List.set_cons_zero, List.set_cons_succ]
          refine wpAnyH_take (i := 9) (v := ?_) (by simp only [List.getElem?_toArray, List.getElem?_cons_succ, List.getElem?_cons_zero]; rfl) (by kernel_rfl) (by kernel_rfl) (by kernel_rfl) (by exact fun _ _ _ h => h) (Or.inl ⟨by rfl, ?_⟩) (by assumption) ?_
          rotate_left
          · intro w' hSw; obtain ⟨e0, e1, e2, e3, e4, e5⟩ := hSw
            go_simp; try with_reducible rfl
          try simp only [Act.put, List.setIfInBounds_toArray, List.set_cons_zero, List.set_cons_succ]
          refine wpAnyH_take (i := 10) (v := ?_) (by simp only [List.getElem?_toArray, List.getElem?_cons_succ, List.getElem?_cons_zero]; rfl) (by kernel_rfl) (by kernel_rfl) (by kernel_rfl) (by exact fun _ _ _ h => h) (Or.inl ⟨by rfl, ?_⟩) (by assumption) ?_
          rotate_left
          · intro w' hSw; obtain ⟨e0, e1, e2, e3, e4, e5⟩ := hSw
            go_simp; try with_reducible rfl
          try simp only [Act.put, List.setIfInBounds_toArray, List.set_cons_zero, List.set_cons_succ]
          refine wpAnyH_take (i := 11) (v := ?_) (by simp only [List.getElem?_toArray, List.getElem?_cons_succ, List.getElem?_cons_zero]; rfl) (by kernel_rfl) (by kernel_rfl) (by kernel_rfl) (by exact fun _ _ _ h => h) (Or.inl ⟨by rfl, ?_⟩) (by assumption) ?_
          rotate_left
          · intro w' hSw; obtain ⟨e0, e1, e2, e3, e4, e5⟩ := hSw
            go_simp; try with_reducible rfl
          try simp only [Act.put, List.setIfInBounds_toArray, List.set_cons_zero, List.set_cons_succ]
          refine wpAnyH_take (i := 12) (v := ?_) (by simp only [List.getElem?_toArray, List.getElem?_cons_succ, List.getElem?_cons_zero]; rfl) (by kernel_rfl) (by kernel_rfl) (by kernel_rfl) (by exact fun _ _ _ h => h) (Or.inl ⟨by rfl, ?_⟩) (by assumption) ?_
          rotate_left
          · intro w' hSw; obtain ⟨e0, e1, e2, e3, e4, e5⟩ := hSw
            go_simp; try with_reducible rfl
          try simp only [Act.put, List.setIfInBounds_toArray, List.set_cons_zero, List.set_cons_succ]
          refine wpAnyH_take (i := 13) (v := ?_) (by simp only [List.getElem?_toArray, List.getElem?_cons_succ, List.getElem?_cons_zero]; rfl) (by kernel_rfl) (by kernel_rfl) (by kernel_rfl) (by exact fun _ _ _ h => h) (Or.inl ⟨by rfl, ?_⟩) (by assumption) ?_
          rotate_left
          · intro w' hSw; obtain ⟨e0, e1, e2, e3, e4, e5⟩ := hSw
            go_simp; try with_reducible rfl
          try simp only [Act.put, List.setIfInBounds_toArray, List.set_cons_zero, List.set_cons_succ]
          refine wpAnyH_take (i := 14) (v := ?_) (by simp only [List.getElem?_toArray, List.getElem?_cons_succ, List.getElem?_cons_zero]; rfl) (by kernel_rfl) (by kernel_rfl) (by kernel_rfl) (by exact fun _ _ _ h => h) (Or.inl ⟨by rfl, ?_⟩) (by assumption) ?_
          rotate_left
          · intro w' hSw; obtain ⟨e0, e1, e2, e3, e4, e5⟩ := hSw
            go_simp; try with_reducible rfl
          try simp only [Act.put, List.setIfInBounds_toArray, List.set_cons_zero, List.set_cons_succ]
          refine wpAnyH_take (i := 15) (v := ?_) (by simp only [List.getElem?_toArray, List.getElem?_cons_succ, List.getElem?_cons_zero]; rfl) (by kernel_rfl) (by kernel_rfl) (by kernel_rfl) (by exact fun _ _ _ h => h) (Or.inl ⟨by rfl, ?_⟩) (by assumption) ?_
          rotate_left
          · intro w' hSw; obtain ⟨e0, e1, e2, e3, e4, e5⟩ := hSw
            go_simp; try with_reducible rfl
          try simp only [Act.put, List.setIfInBounds_toArray, List.set_cons_zero, List.set_cons_succ]
          refine wpAnyH_ready (rs := [16, 20]) (by kernel_rfl) (by simp) ?_
          refine AllReadyH.cons (by simp only [List.getElem?_toArray, List.getElem?_cons_succ, List.getElem?_cons_zero]; rfl) (fun K hK => ?_) (AllReadyH.cons (by simp only [List.getElem?_toArray, List.getElem?_cons_succ, List.getElem?_cons_zero]; rfl) (fun K hK => ?_) AllReadyH.nil)
          · go_simp
            go_at_call 109
            refine (HFl.out _ (HB.out.drew)).mono ?_
            rintro e w2 ⟨rfl, hb⟩
            have rb : Below wo.heap.size wo w2 := (Below.refl _ _).drew.trans hb
            have hS2 : w2.cell? ⟨w.heap.size, 0, none⟩ = some (.slice a t.net.stops.length c) ∧ w2.cell? ⟨w.heap.size, 1, none⟩ = some (.slice a' t.net.lines.length c') ∧ w2.cell? ⟨w.heap.size, 2, none⟩ = some (.slice b t.trips.length d) ∧ w2.cell? ⟨g, go + k * 5, none⟩ = some (.int .i64 x.trip) ∧ w2.cell? ⟨g, go + k * 5 + 1, none⟩ = some (.int .i64 x.frm) ∧ w2.cell? ⟨g, go + k * 5 + 2, none⟩ = some (.int .i64 x.dst) := ⟨bkeep rb p0, bkeep rb p1, bkeep rb p2, bkeep rb y0, bkeep rb y1, bkeep rb y2⟩
            have HB2 : Hid (Below w.heap.size w w2) := HB.out.trans (rb.mono HB.out.size)
            have HR2 : Hid (Below wo.heap.size wo w2) := rb
            clear hb rb
            go_wp2_with fail
            refine hK.out _ _ hS2 (fun hH16 => ?_)
            clear hK K
            try simp only [Act.put, List.setIfInBounds_toArray, List.set_cons_zero, List.set_cons_succ]
            refine wpAnyH_take (i := 17) (v := ?_) (by simp only [List.getElem?_toArray, List.getElem?_cons_succ, List.getElem?_cons_zero]; rfl) (by kernel_rfl) (by kernel_rfl) (by kernel_rfl) (by exact fun _ _ _ h => h) (Or.inl ⟨by rfl, ?_⟩) (by assumption) ?_
            rotate_left
            · intro w' hSw; obtain ⟨e0, e1, e2, e3, e4, e5⟩ := hSw
              go_simp; try with_reducible rfl
            try simp only [Act.put, List.setIfInBounds_toArray, List.set_cons_zero, List.set_cons_succ]
            refine wpAnyH_take (i := 18) (v := ?_) (by simp only [List.getElem?_toArray, List.getElem?_cons_succ, List.getElem?_cons_zero]; rfl) (by kernel_rfl) (by kernel_rfl) (by kernel_rfl) (by exact fun _ _ _ h => h) (Or.inl ⟨by rfl, ?_⟩) (by assumption) ?_
            rotate_left
            · intro w' hSw; obtain ⟨e0, e1, e2, e3, e4, e5⟩ := hSw
              go_simp; try with_reducible rfl
            try simp only [Act.put, List.setIfInBounds_toArray, List.set_cons_zero, List.set_cons_succ]
            refine wpAnyH_take (i := 19) (v := ?_) (by simp only [List.getElem?_toArray, List.getElem?_cons_succ, List.getElem?_cons_zero]; rfl) (by kernel_rfl) (by kernel_rfl) (by kernel_rfl) (by exact fun _ _ _ h => h) (Or.inl ⟨by rfl, ?_⟩) (by assumption) ?_
            rotate_left
            · intro w' hSw; obtain ⟨e0, e1, e2, e3, e4, e5⟩ := hSw
              go_simp; try with_reducible rfl
            try simp only [Act.put, List.setIfInBounds_toArray, List.set_cons_zero, List.set_cons_succ]
            refine wpAnyH_ready (rs := [20]) (by kernel_rfl) (by simp) ?_
            refine AllReadyH.cons (by simp only [List.getElem?_toArray, List.getElem?_cons_succ, List.getElem?_cons_zero]; rfl) (fun K hK => ?_) AllReadyH.nil
            go_simp
            obtain ⟨wy, hwy⟩ : ∃ wy : World, wy = (w2.alloc (.cells #[.int .i64 0, .int .i64 0, .int .i64 0, .int .i64 0, .int .i64 0] 62)) := ⟨_, rfl⟩
            have HZy : Hid (Z5 wy w2.heap.size) := by rw [hwy]; exact Z5.new w2
            have rby : Below w2.heap.size w2 wy := by rw [hwy]; exact (Below.refl _ _).alloc (Nat.le_refl _) _
            have HBy : Hid (Below w.heap.size w wy) := HB2.out.trans (rby.mono HB2.out.size)
            have HRy : Hid (Below wo.heap.size wo wy) := HR2.out.trans (rby.mono HR2.out.size)
            have hSy : wy.cell? ⟨w.heap.size, 0, none⟩ = some (.slice a t.net.stops.length c) ∧ wy.cell? ⟨w.heap.size, 1, none⟩ = some (.slice a' t.net.lines.length c') ∧ wy.cell? ⟨w.heap.size, 2, none⟩ = some (.slice b t.trips.length d) ∧ wy.cell? ⟨g, go + k * 5, none⟩ = some (.int .i64 x.trip) ∧ wy.cell? ⟨g, go + k * 5 + 1, none⟩ = some (.int .i64 x.frm) ∧ wy.cell? ⟨g, go + k * 5 + 2, none⟩ = some (.int .i64 x.dst) := ⟨bkeep rby hH16.1, bkeep rby hH16.2.1, bkeep rby hH16.2.2.1, bkeep rby hH16.2.2.2.1, bkeep rby hH16.2.2.2.2.1, bkeep rby hH16.2.2.2.2.2⟩
            rw [← hwy]
            clear hwy rby
            refine hK.out _ _ hSy (fun hH20 => ?_)
            clear hK K
            try simp only [Act.put, List.setIfInBounds_toArray, List.set_cons_zero, List.set_cons_succ]
            refine wpAnyH_ready (rs := [21]) (by kernel_rfl) (by simp) ?_
            refine AllReadyH.cons (by simp only [List.getElem?_toArray, List.getElem?_cons_succ, List.getElem?_cons_zero]; rfl) (fun K hK => ?_) AllReadyH.nil
            have HBz := HBy
            have HRz := HRy
            have hBB : wo.heap.size ≤ w2.heap.size ∧ w.heap.size < w2.heap.size := by have := HB.out.size; have := hz.out; have := HR2.out.size; omega
            have hgB : g < wo.heap.size := hgb
            obtain ⟨zz0, zz1, zz2, zz3, zz4, zl, zf⟩ := HZy.out
            go_simp
            refine hK.out _ _ ⟨(set5_cell (by dsimp only; omega)).trans hH20.1, (set5_cell (by dsimp only; omega)).trans hH20.2.1, (set5_cell (by dsimp only; omega)).trans hH20.2.2.1, (set5_cell (by dsimp only; omega)).trans hH20.2.2.2.1, (set5_cell (by dsimp only; omega)).trans hH20.2.2.2.2.1, (set5_cell (by dsimp only; omega)).trans hH20.2.2.2.2.2⟩ (fun hH21 => ?_)
            obtain ⟨w3, hw3⟩ : ∃ w3 : World, w3 = (((((wy.setCell ⟨w2.heap.size, 0, none⟩ (.int .i64 y.trip)).setCell ⟨w2.heap.size, 1, none⟩ (.int .i64 y.frm)).setCell ⟨w2.heap.size, 2, none⟩ (.int .i64 y.dst)).setCell ⟨w2.heap.size, 3, none⟩ (.int .i64 y.dep)).setCell ⟨w2.heap.size, 4, none⟩ (.int .i64 y.arr)) := ⟨_, rfl⟩
            obtain ⟨B, hB⟩ : ∃ B : Nat, B = w2.heap.size := ⟨_, rfl⟩
            have b0 : w3.cell? ⟨B, 0, none⟩ = some (.int .i64 y.trip) := by rw [hw3, hB]; go_simp
            have b1 : w3.cell? ⟨B, 1, none⟩ = some (.int .i64 y.frm) := by rw [hw3, hB]; go_simp
            have b2 : w3.cell? ⟨B, 2, none⟩ = some (.int .i64 y.dst) := by rw [hw3, hB]; go_simp
            have b3 : w3.cell? ⟨B, 3, none⟩ = some (.int .i64 y.dep) := by rw [hw3, hB]; go_simp
            have b4 : w3.cell? ⟨B, 4, none⟩ = some (.int .i64 y.arr) := by rw [hw3, hB]; go_simp
            have HR3 : Hid (Below wo.heap.size wo w3) := by show Below _ _ _; rw [hw3]; exact set5_below HRz.out (by omega)
            have HB3 : Hid (Below w.heap.size w w3) := HB.out.trans (HR3.out.mono HB.out.size)
            rw [← hw3, ← hB]
            rw [← hw3] at hH21
            have hS3 := hH21
            obtain ⟨p0, p1, p2, -, -, -⟩ := hH21
            clear hw3 hB hBB zz0 zz1 zz2 zz3 zz4 zl zf HBz HRz
            clear hK K
            try simp only [Act.put, List.setIfInBounds_toArray, List.set_cons_zero, List.set_cons_succ]
            refine wpAnyH_take (i := 22) (v := ?_) (by simp only [List.getElem?_toArray, List.getElem?_cons_succ, List.getElem?_cons_zero]; rfl) (by kernel_rfl) (by kernel_rfl) (by kernel_rfl) (by exact fun _ _ _ h => h) (Or.inl ⟨by rfl, ?_⟩) (by assumption) ?_
            rotate_left
            · intro w' hSw; obtain ⟨e0, e1, e2, e3, e4, e5⟩ := hSw
              go_simp; try with_reducible rfl
            try simp only [Act.put, List.setIfInBounds_toArray, List.set_cons_zero, List.set_cons_succ]
            refine wpAnyH_done (by kernel_rfl) ?_ _
            clear hS3
            go_wp2_with fail
            go_quiet (fail)
            go_wp2_with fail
            go_ret
            exact ⟨ret_bool (by rw [HN.out]), HB3.out.trans ((Dr.below ⟨_, rfl⟩).mono (by have := HB3.out.size; omega))⟩
          · go_simp
            obtain ⟨wy, hwy⟩ : ∃ wy : World, wy = ((wo.alloc (.cells #[.int .i64 0, .int .i64 0, .int .i64 0, .int .i64 0, .int .i64 0] 62)).drew) := ⟨_, rfl⟩
            have HZy : Hid (Z5 wy wo.heap.size) := by rw [hwy]; exact Z5.new wo
            have rby : Below wo.heap.size wo wy := by rw [hwy]; exact ((Below.refl _ _).alloc (Nat.le_refl _) _).drew
            have HBy : Hid (Below w.heap.size w wy) := HB.out.trans (rby.mono HB.out.size)
            have HRy : Hid (Below wo.heap.size wo wy) := rby
            have hSy : wy.cell? ⟨w.heap.size, 0, none⟩ = some (.slice a t.net.stops.length c) ∧ wy.cell? ⟨w.heap.size, 1, none⟩ = some (.slice a' t.net.lines.length c') ∧ wy.cell? ⟨w.heap.size, 2, none⟩ = some (.slice b t.trips.length d) ∧ wy.cell? ⟨g, go + k * 5, none⟩ = some (.int .i64 x.trip) ∧ wy.cell? ⟨g, go + k * 5 + 1, none⟩ = some (.int .i64 x.frm) ∧ wy.cell? ⟨g, go + k * 5 + 2, none⟩ = some (.int .i64 x.dst) := ⟨bkeep rby p0, bkeep rby p1, bkeep rby p2, bkeep rby y0, bkeep rby y1, bkeep rby y2⟩
            rw [← hwy]
            clear hwy rby
            refine hK.out _ _ hSy (fun hH20 => ?_)
            clear hK K
            try simp only [Act.put, List.setIfInBounds_toArray, List.set_cons_zero, List.set_cons_succ]
            refine wpAnyH_ready (rs := [16]) (by kernel_rfl) (by simp) ?_
            refine AllReadyH.cons (by simp only [List.getElem?_toArray, List.getElem?_cons_succ, List.getElem?_cons_zero]; rfl) (fun K hK => ?_) AllReadyH.nil
            go_simp
            go_at_call 109
            refine (HFl.out _ (HBy.out)).mono ?_
            rintro e w2 ⟨rfl, hb⟩
            have rb : Below wy.heap.size wy w2 := hb
            have hS2 : w2.cell? ⟨w.heap.size, 0, none⟩ = some (.slice a t.net.stops.length c) ∧ w2.cell? ⟨w.heap.size, 1, none⟩ = some (.slice a' t.net.lines.length c') ∧ w2.cell? ⟨w.heap.size, 2, none⟩ = some (.slice b t.trips.length d) ∧ w2.cell? ⟨g, go + k * 5, none⟩ = some (.int .i64 x.trip) ∧ w2.cell? ⟨g, go + k * 5 + 1, none⟩ = some (.int .i64 x.frm) ∧ w2.cell? ⟨g, go + k * 5 + 2, none⟩ = some (.int .i64 x.dst) := ⟨bkeep rb hH20.1, bkeep rb hH20.2.1, bkeep rb hH20.2.2.1, bkeep rb hH20.2.2.2.1, bkeep rb hH20.2.2.2.2.1, bkeep rb hH20.2.2.2.2.2⟩
            have HB2 : Hid (Below w.heap.size w w2) := HBy.out.trans (rb.mono HBy.out.size)
            have HZ2 := Lib.hid (HZy.out.later rb)
            have HR2 : Hid (Below wo.heap.size wo w2) := HRy.out.trans (rb.mono HRy.out.size)
            clear hb rb
            go_wp2_with fail
            refine hK.out _ _ hS2 (fun hH16 => ?_)
            clear hK K
            try simp only [Act.put, List.setIfInBounds_toArray, List.set_cons_zero, List.set_cons_succ]
            refine wpAnyH_take (i := 17) (v := ?_) (by simp only [List.getElem?_toArray, List.getElem?_cons_succ, List.getElem?_cons_zero]; rfl) (by kernel_rfl) (by kernel_rfl) (by kernel_rfl) (by exact fun _ _ _ h => h) (Or.inl ⟨by rfl, ?_⟩) (by assumption) ?_
            rotate_left
            · intro w' hSw; obtain ⟨e0, e1, e2, e3, e4, e5⟩ := hSw
              go_simp; try with_reducible rfl
            try simp only [Act.put, List.setIfInBounds_toArray, List.set_cons_zero, List.set_cons_succ]
            refine wpAnyH_take (i := 18) (v := ?_) (by simp only [List.getElem?_toArray, List.getElem?_cons_succ, List.getElem?_cons_zero]; rfl) (by kernel_rfl) (by kernel_rfl) (by kernel_rfl) (by exact fun _ _ _ h => h) (Or.inl ⟨by rfl, ?_⟩) (by assumption) ?_
            rotate_left
            · intro w' hSw; obtain ⟨e0, e1, e2, e3, e4, e5⟩ := hSw
              go_simp; try with_reducible rfl
            try simp only [Act.put, List.setIfInBounds_toArray, List.set_cons_zero, List.set_cons_succ]
            refine wpAnyH_take (i := 19) (v := ?_) (by simp only [List.getElem?_toArray, List.getElem?_cons_succ, List.getElem?_cons_zero]; rfl) (by kernel_rfl) (by kernel_rfl) (by kernel_rfl) (by exact fun _ _ _ h => h) (Or.inl ⟨by rfl, ?_⟩) (by assumption) ?_
            rotate_left
            · intro w' hSw; obtain ⟨e0, e1, e2, e3, e4, e5⟩ := hSw
              go_simp; try with_reducible rfl
            try simp only [Act.put, List.setIfInBounds_toArray, List.set_cons_zero, List.set_cons_succ]
            refine wpAnyH_ready (rs := [21]) (by kernel_rfl) (by simp) ?_
            refine AllReadyH.cons (by simp only [List.getElem?_toArray, List.getElem?_cons_succ, List.getElem?_cons_zero]; rfl) (fun K hK => ?_) AllReadyH.nil
            have HBz := HB2
            have HRz := HR2
            have hBB : wo.heap.size ≤ wo.heap.size ∧ w.heap.size < wo.heap.size := by have := HB.out.size; have := hz.out; omega
            have hgB : g < wo.heap.size := hgb
            obtain ⟨zz0, zz1, zz2, zz3, zz4, zl, zf⟩ := HZ2.out
            go_simp
            refine hK.out _ _ ⟨(set5_cell (by dsimp only; omega)).trans hH16.1, (set5_cell (by dsimp only; omega)).trans hH16.2.1, (set5_cell (by dsimp only; omega)).trans hH16.2.2.1, (set5_cell (by dsimp only; omega)).trans hH16.2.2.2.1, (set5_cell (by dsimp only; omega)).trans hH16.2.2.2.2.1, (set5_cell (by dsimp only; omega)).trans hH16.2.2.2.2.2⟩ (fun hH21 => ?_)
            obtain ⟨w3, hw3⟩ : ∃ w3 : World, w3 = (((((w2.setCell ⟨wo.heap.size, 0, none⟩ (.int .i64 y.trip)).setCell ⟨wo.heap.size, 1, none⟩ (.int .i64 y.frm)).setCell ⟨wo.heap.size, 2, none⟩ (.int .i64 y.dst)).setCell ⟨wo.heap.size, 3, none⟩ (.int .i64 y.dep)).setCell ⟨wo.heap.size, 4, none⟩ (.int .i64 y.arr)) := ⟨_, rfl⟩
            obtain ⟨B, hB⟩ : ∃ B : Nat, B = wo.heap.size := ⟨_, rfl⟩
            have b0 : w3.cell? ⟨B, 0, none⟩ = some (.int .i64 y.trip) := by rw [hw3, hB]; go_simp
            have b1 : w3.cell? ⟨B, 1, none⟩ = some (.int .i64 y.frm) := by rw [hw3, hB]; go_simp
            have b2 : w3.cell? ⟨B, 2, none⟩ = some (.int .i64 y.dst) := by rw [hw3, hB]; go_simp
            have b3 : w3.cell? ⟨B, 3, none⟩ = some (.int .i64 y.dep) := by rw [hw3, hB]; go_simp
            have b4 : w3.cell? ⟨B, 4, none⟩ = some (.int .i64 y.arr) := by rw [hw3, hB]; go_simp
            have HR3 : Hid (Below wo.heap.size wo w3) := by show Below _ _ _; rw [hw3]; exact set5_below HRz.out (by omega)
            have HB3 : Hid (Below w.heap.size w w3) := HB.out.trans (HR3.out.mono HB.out.size)
            rw [← hw3, ← hB]
            rw [← hw3] at hH21
            have hS3 := hH21
            obtain ⟨p0, p1, p2, -, -, -⟩ := hH21
            clear hw3 hB hBB zz0 zz1 zz2 zz3 zz4 zl zf HBz HRz
            clear hK K
            try simp only [Act.put, List.setIfInBounds_toArray, List.set_cons_zero, List.set_cons_succ]
            refine wpAnyH_take (i := 22) (v := ?_) (by simp only [List.getElem?_toArray, List.getElem?_cons_succ, List.getElem?_cons_zero]; rfl) (by kernel_rfl) (by kernel_rfl) (by kernel_rfl) (by exact fun _ _ _ h => h) (Or.inl ⟨by rfl, ?_⟩) (by assumption) ?_
            rotate_left
            · intro w' hSw; obtain ⟨e0, e1, e2, e3, e4, e5⟩ := hSw
              go_simp; try with_reducible rfl
            try simp only [Act.put, List.setIfInBounds_toArray, List.set_cons_zero, List.set_cons_succ]
            refine wpAnyH_done (by kernel_rfl) ?_ _
            clear hS3
            go_wp2_with fail
            go_quiet (fail)
            go_wp2_with fail
            go_ret
            exact ⟨ret_bool (by rw [HN.out]), HB3.out.trans ((Dr.below ⟨_, rfl⟩).mono (by have := HB3.out.size; omega))⟩

        | some y =>
          simp only [ho] at HFl
          have hy : legO (some y) = y := rfl
          simp only [hy] at HFl
          unfold legV at HFl
          simp only [Option.isSome_some] at HFl
          obtain ⟨hyL, -, -, -⟩ := fillF_some ho
          by_cases he : y = x
          · subst he
            have HXL := Lib.hid hyL
            have hyx : legEqB y y = true := (legEqB_iff _ _).2 rfl
            clear ho hy hyL
            obtain ⟨x, hxy⟩ : ∃ x, x = y := ⟨_, rfl⟩
            subst hxy
            go_wp2_with fail
            refine wp_region_held_drew (S := (fun w' => w'.cell? ⟨w.heap.size, 0, none⟩ = some (.slice a t.net.stops.length c) ∧ w'.cell? ⟨w.heap.size, 1, none⟩ = some (.slice a' t.net.lines.length c') ∧ w'.cell? ⟨w.heap.size, 2, none⟩ = some (.slice b t.trips.length d) ∧ w'.cell? ⟨g, go + k * 5, none⟩ = some (.int .i64 x.trip) ∧ w'.cell? ⟨g, go + k * 5 + 1, none⟩ = some (.int .i64 x.frm) ∧ w'.cell? ⟨g, go + k * 5 + 2, none⟩ = some (.int .i64 x.dst))) (by kernel_rfl) ?_ (fun hHeld => ?_)
            · exact ⟨p0, p1, p2, y0, y1, y2⟩
            refine wpAnyH_take (i := 0) (v := ?_) (by simp only [List.getElem?_toArray, List.getElem?_cons_zero]; rfl) (by kernel_rfl) (by kernel_rfl) (by kernel_rfl) (by exact fun _ _ _ h => h) (Or.inl ⟨by rfl, ?_⟩) (by assumption) ?_
            rotate_left
            · intro w' hSw; obtain ⟨e0, e1, e2, e3, e4, e5⟩ := hSw
              go_simp; try with_reducible rfl
            try simp only [Act.put, List.setIfInBounds_toArray, List.set_cons_zero, List.set_cons_succ]
            refine wpAnyH_take (i := 1) (v := ?_) (by simp only [List.getElem?_toArray, List.getElem?_cons_succ, List.getElem?_cons_zero]; rfl) (by kernel_rfl) (by kernel_rfl) (by kernel_rfl) (by exact fun _ _ _ h => h) (Or.inl ⟨by rfl, ?_⟩) (by assumption) ?_
            rotate_left
            · intro w' hSw; obtain ⟨e0, e1, e2, e3, e4, e5⟩ := hSw
              go_simp; try with_reducible rfl
            try simp only [Act.put, List.setIfInBounds_toArray, List.set_cons_zero, List.set_cons_succ]
            refine wpAnyH_take (i := 2) (v := ?_) (by simp only [List.getElem?_toArray, List.getElem?_cons_succ, List.getElem?_cons_zero]; rfl) (by kernel_rfl) (by kernel_rfl) (by kernel_rfl) (by exact fun _ _ _ h => h) (Or.inl ⟨by rfl, ?_⟩) (by assumption) ?_
            rotate_left
            · intro w' hSw; obtain ⟨e0, e1, e2, e3, e4, e5⟩ := hSw
              go_simp; try with_reducible rfl
            try simp only [Act.put, List.setIfInBounds_toArray, List.set_cons_zero, List.set_cons_succ]
            refine wpAnyH_take (i := 3) (v := ?_) (by simp only [List.getElem?_toArray, List.getElem?_cons_succ, List.getElem?_cons_zero]; rfl) (by kernel_rfl) (by kernel_rfl) (by kernel_rfl) (by exact fun _ _ _ h => h) (Or.inl ⟨by rfl, ?_⟩) (by assumption) ?_
            rotate_left
            · intro w' hSw; obtain ⟨e0, e1, e2, e3, e4, e5⟩ := hSw
              go_simp; try with_reducible rfl
            try simp only [Act.put, List.setIfInBounds_toArray, List.set_cons_zero, List.set_cons_succ]
            refine wpAnyH_take (i := 4) (v := ?_) (by simp only [List.getElem?_toArray, List.getElem?_cons_succ, List.getElem?_cons_zero]; rfl) (by kernel_rfl) (by kernel_rfl) (by kernel_rfl) (by exact fun _ _ _ h => h) (Or.inl ⟨by rfl, ?_⟩) (by assumption) ?_
            rotate_left
            · intro w' hSw; obtain ⟨e0, e1, e2, e3, e4, e5⟩ := hSw
              go_simp; try with_reducible rfl
            try simp only [Act.put, List.setIfInBounds_toArray, List.set_cons_zero, List.set_cons_succ]
            refine wpAnyH_take (i := 5) (v := ?_) (by simp only [List.getElem?_toArray, List.getElem?_cons_succ, List.getElem?_cons_zero]; rfl) (by kernel_rfl) (by kernel_rfl) (by kernel_rfl) (by exact fun _ _ _ h => h) (Or.inl ⟨by rfl, ?_⟩) (by assumption) ?_
            rotate_left
            · intro w' hSw; obtain ⟨e0, e1, e2, e3, e4, e5⟩ := hSw
              go_simp; try with_reducible rfl
            try simp only [Act.put, List.setIfInBounds_toArray, List.set_cons_zero, List.set_cons_succ]
            refine wpAnyH_take (i := 6) (v := ?_) (by simp only [List.getElem?_toArray, List.getElem?_cons_succ, List.getElem?_cons_zero]; rfl) (by kernel_rfl) (by kernel_rfl) (by kernel_rfl) (by exact fun _ _ _ h => h) (Or.inl ⟨by rfl, ?_⟩) (by assumption) ?_
            rotate_left
            · intro w' hSw; obtain ⟨e0, e1, e2, e3, e4, e5⟩ := hSw
              go_simp; try with_reducible rfl
            try simp only [Act.put, List.setIfInBounds_toArray, List.set_cons_zero, List.set_cons_succ]
            refine wpAnyH_take (i := 7) (v := ?_) (by simp only [List.getElem?_toArray, List.getElem?_cons_succ, List.getElem?_cons_zero]; rfl) (by kernel_rfl) (by kernel_rfl) (by kernel_rfl) (by exact fun _ _ _ h => h) (Or.inl ⟨by rfl, ?_⟩) (by assumption) ?_
            rotate_left
            · intro w' hSw; obtain ⟨e0, e1, e2, e3, e4, e5⟩ := hSw
              go_simp; try with_reducible rfl
            try simp only [Act.put, List.setIfInBounds_toArray, List.set_cons_zero, List.set_cons_succ]
            refine wpAnyH_take (i := 8) (v := ?_) (by simp only [List.getElem?_toArray, List.getElem?_cons_succ, List.getElem?_cons_zero]; rfl) (by kernel_rfl) (by kernel_rfl) (by kernel_rfl) (by exact fun _ _ _ h => h) (Or.inl ⟨by rfl, ?_⟩) (by assumption) ?_
            rotate_left
            · intro w' hSw; obtain ⟨e0, e1, e2, e3, e4, e5⟩ := hSw
              go_simp; try with_reducible rfl
            try simp only [Act.put, List.setIfInBounds_toArray, List.set_cons_zero, List.set_cons_succ]
            refine wpAnyH_take (i := 9) (v := ?_) (by simp only [List.getElem?_toArray, List.getElem?_cons_succ, List.getElem?_cons_zero]; rfl) (by kernel_rfl) (by kernel_rfl) (by kernel_rfl) (by exact fun _ _ _ h => h) (Or.inl ⟨by rfl, ?_⟩) (by assumption) ?_
            rotate_left
            · intro w' hSw; obtain ⟨e0, e1, e2, e3, e4, e5⟩ := hSw
              go_simp; try with_reducible rfl
            try simp only [Act.put, List.setIfInBounds_toArray, List.set_cons_zero, List.set_cons_succ]
            refine wpAnyH_take (i := 10) (v := ?_) (by simp only [List.getElem?_toArray, List.getElem?_cons_succ, List.getElem?_cons_zero]; rfl) (by kernel_rfl) (by kernel_rfl) (by kernel_rfl) (by exact fun _ _ _ h => h) (Or.inl ⟨by rfl, ?_⟩) (by assumption) ?_
            rotate_left
            · intro w' hSw; obtain ⟨e0, e1, e2, e3, e4, e5⟩ := hSw
              go_simp; try with_reducible rfl
            try simp only [Act.put, List.setIfInBounds_toArray, List.set_cons_zero, List.set_cons_succ]
            refine wpAnyH_take (i := 11) (v := ?_) (by simp only [List.getElem?_toArray, List.getElem?_cons_succ, List.getElem?_cons_zero]; rfl) (by kernel_rfl) (by kernel_rfl) (by kernel_rfl) (by exact fun _ _ _ h => h) (Or.inl ⟨by rfl, ?_⟩) (by assumption) ?_
            rotate_left
            · intro w' hSw; obtain ⟨e0, e1, e2, e3, e4, e5⟩ := hSw
              go_simp; try with_reducible rfl
            try simp only [Act.put, List.setIfInBounds_toArray, List.set_cons_zero, List.set_cons_succ]
            refine wpAnyH_take (i := 12) (v := ?_) (by simp only [List.getElem?_toArray, List.getElem?_cons_succ, List.getElem?_cons_zero]; rfl) (by kernel_rfl) (by kernel_rfl) (by kernel_rfl) (by exact fun _ _ _ h => h) (Or.inl ⟨by rfl, ?_⟩) (by assumption) ?_
            rotate_left
            · intro w' hSw; obtain ⟨e0, e1, e2, e3, e4, e5⟩ := hSw
              go_simp; try with_reducible rfl
            try simp only [Act.put, List.setIfInBounds_toArray, List.set_cons_zero, List.set_cons_succ]
            refine wpAnyH_take (i := 13) (v := ?_) (by simp only [List.getElem?_toArray, List.getElem?_cons_succ, List.getElem?_cons_zero]; rfl) (by kernel_rfl) (by kernel_rfl) (by kernel_rfl) (by exact fun _ _ _ h => h) (Or.inl ⟨by rfl, ?_⟩) (by assumption) ?_
            rotate_left
            · intro w' hSw; obtain ⟨e0, e1, e2, e3, e4, e5⟩ := hSw
              go_simp; try with_reducible rfl
            try simp only [Act.put, List.setIfInBounds_toArray, List.set_cons_zero, List.set_cons_succ]
            refine wpAnyH_take (i := 14) (v := ?_) (by simp only [List.getElem?_toArray, List.getElem?_cons_succ, List.getElem?_cons_zero]; rfl) (by kernel_rfl) (by kernel_rfl) (by kernel_rfl) (by exact fun _ _ _ h => h) (Or.inl ⟨by rfl, ?_⟩) (by assumption) ?_
            rotate_left
            · intro w' hSw; obtain ⟨e0, e1, e2, e3, e4, e5⟩ := hSw
              go_simp; try with_reducible rfl
            try simp only [Act.put, List.setIfInBounds_toArray, List.set_cons_zero, List.set_cons_succ]
            refine wpAnyH_take (i := 15) (v := ?_) (by simp only [List.getElem?_toArray, List.getElem?_cons_succ, List.getElem?_cons_zero]; rfl) (by kernel_rfl) (by kernel_rfl) (by kernel_rfl) (by exact fun _ _ _ h => h) (Or.inl ⟨by rfl, ?_⟩) (by assumption) ?_
            rotate_left
            · intro w' hSw; obtain ⟨e0, e1, e2, e3, e4, e5⟩ := hSw
              go_simp; try with_reducible rfl
            try simp only [Act.put, List.setIfInBounds_toArray, List.set_cons_zero, List.set_cons_succ]
            refine wpAnyH_ready (rs := [16, 20]) (by kernel_rfl) (by simp) ?_
            refine AllReadyH.cons (by simp only [List.getElem?_toArray, List.getElem?_cons_succ, List.getElem?_cons_zero]; rfl) (fun K hK => ?_) (AllReadyH.cons (by simp only [List.getElem?_toArray, List.getElem?_cons_succ, List.getElem?_cons_zero]; rfl) (fun K hK => ?_) AllReadyH.nil)
            · go_simp
              go_at_call 109
              refine (HFl.out _ (HB.out.drew)).mono ?_
              rintro e w2 ⟨rfl, hb⟩
              have rb : Below wo.heap.size wo w2 := (Below.refl _ _).drew.trans hb
              have hS2 : w2.cell? ⟨w.heap.size, 0, none⟩ = some (.slice a t.net.stops.length c) ∧ w2.cell? ⟨w.heap.size, 1, none⟩ = some (.slice a' t.net.lines.length c') ∧ w2.cell? ⟨w.heap.size, 2, none⟩ = some (.slice b t.trips.length d) ∧ w2.cell? ⟨g, go + k * 5, none⟩ = some (.int .i64 x.trip) ∧ w2.cell? ⟨g, go + k * 5 + 1, none⟩ = some (.int .i64 x.frm) ∧ w2.cell? ⟨g, go + k * 5 + 2, none⟩ = some (.int .i64 x.dst) := ⟨bkeep rb p0, bkeep rb p1, bkeep rb p2, bkeep rb y0, bkeep rb y1, bkeep rb y2⟩
              have HB2 : Hid (Below w.heap.size w w2) := HB.out.trans (rb.mono HB.out.size)
              have HR2 : Hid (Below wo.heap.size wo w2) := rb
              clear hb rb
              go_wp2_with fail
              refine hK.out _ _ hS2 (fun hH16 => ?_)
              clear hK K
              try simp only [Act.put, List.setIfInBounds_toArray, List.set_cons_zero, List.set_cons_succ]
              refine wpAnyH_take (i := 17) (v := ?_) (by simp only [List.getElem?_toArray, List.getElem?_cons_succ, List.getElem?_cons_zero]; rfl) (by kernel_rfl) (by kernel_rfl) (by kernel_rfl) (by exact fun _ _ _ h => h) (Or.inl ⟨by rfl, ?_⟩) (by assumption) ?_
              rotate_left
              · intro w' hSw; obtain ⟨e0, e1, e2, e3, e4, e5⟩ := hSw
                go_simp; try with_reducible rfl
              try simp only [Act.put, List.setIfInBounds_toArray, List.set_cons_zero, List.set_cons_succ]
              refine wpAnyH_take (i := 18) (v := ?_) (by simp only [List.getElem?_toArray, List.getElem?_cons_succ, List.getElem?_cons_zero]; rfl) (by kernel_rfl) (by kernel_rfl) (by kernel_rfl) (by exact fun _ _ _ h => h) (Or.inl ⟨by rfl, ?_⟩) (by assumption) ?_
              rotate_left
              · intro w' hSw; obtain ⟨e0, e1, e2, e3, e4, e5⟩ := hSw
                go_simp; try with_reducible rfl
              try simp only [Act.put, List.setIfInBounds_toArray, List.set_cons_zero, List.set_cons_succ]
              refine wpAnyH_take (i := 19) (v := ?_) (by simp only [List.getElem?_toArray, List.getElem?_cons_succ, List.getElem?_cons_zero]; rfl) (by kernel_rfl) (by kernel_rfl) (by kernel_rfl) (by exact fun _ _ _ h => h) (Or.inl ⟨by rfl, ?_⟩) (by assumption) ?_
              rotate_left
              · intro w' hSw; obtain ⟨e0, e1, e2, e3, e4, e5⟩ := hSw
                go_simp; try with_reducible rfl
              try simp only [Act.put, List.setIfInBounds_toArray, List.set_cons_zero, List.set_cons_succ]
              refine wpAnyH_ready (rs := [20]) (by kernel_rfl) (by simp) ?_
              refine AllReadyH.cons (by simp only [List.getElem?_toArray, List.getElem?_cons_succ, List.getElem?_cons_zero]; rfl) (fun K hK => ?_) AllReadyH.nil
              go_simp
              obtain ⟨wy, hwy⟩ : ∃ wy : World, wy = (w2.alloc (.cells #[.int .i64 0, .int .i64 0, .int .i64 0, .int .i64 0, .int .i64 0] 62)) := ⟨_, rfl⟩
              have HZy : Hid (Z5 wy w2.heap.size) := by rw [hwy]; exact Z5.new w2
              have rby : Below w2.heap.size w2 wy := by rw [hwy]; exact (Below.refl _ _).alloc (Nat.le_refl _) _
              have HBy : Hid (Below w.heap.size w wy) := HB2.out.trans (rby.mono HB2.out.size)
              have HRy : Hid (Below wo.heap.size wo wy) := HR2.out.trans (rby.mono HR2.out.size)
              have hSy : wy.cell? ⟨w.heap.size, 0, none⟩ = some (.slice a t.net.stops.length c) ∧ wy.cell? ⟨w.heap.size, 1, none⟩ = some (.slice a' t.net.lines.length c') ∧ wy.cell? ⟨w.heap.size, 2, none⟩ = some (.slice b t.trips.length d) ∧ wy.cell? ⟨g, go + k * 5, none⟩ = some (.int .i64 x.trip) ∧ wy.cell? ⟨g, go + k * 5 + 1, none⟩ = some (.int .i64 x.frm) ∧ wy.cell? ⟨g, go + k * 5 + 2, none⟩ = some (.int .i64 x.dst) := ⟨bkeep rby hH16.1, bkeep rby hH16.2.1, bkeep rby hH16.2.2.1, bkeep rby hH16.2.2.2.1, bkeep rby hH16.2.2.2.2.1, bkeep rby hH16.2.2.2.2.2⟩
              rw [← hwy]
              clear hwy rby
              refine hK.out _ _ hSy (fun hH20 => ?_)
              clear hK K
              try simp only [Act.put, List.setIfInBounds_toArray, List.set_cons_zero, List.set_cons_succ]
              refine wpAnyH_ready (rs := [21]) (by kernel_rfl) (by simp) ?_
              refine AllReadyH.cons (by simp only [List.getElem?_toArray, List.getElem?_cons_succ, List.getElem?_cons_zero]; rfl) (fun K hK => ?_) AllReadyH.nil
              have HBz := HBy
              have HRz := HRy
              have hBB : wo.heap.size ≤ w2.heap.size ∧ w.heap.size < w2.heap.size := by have := HB.out.size; have := hz.out; have := HR2.out.size; omega
              have hgB : g < wo.heap.size := hgb
              obtain ⟨zz0, zz1, zz2, zz3, zz4, zl, zf⟩ := HZy.out
              go_simp
              refine hK.out _ _ ⟨(set5_cell (by dsimp only; omega)).trans hH20.1, (set5_cell (by dsimp only; omega)).trans hH20.2.1, (set5_cell (by dsimp only; omega)).trans hH20.2.2.1, (set5_cell (by dsimp only; omega)).trans hH20.2.2.2.1, (set5_cell (by dsimp only; omega)).trans hH20.2.2.2.2.1, (set5_cell (by dsimp only; omega)).trans hH20.2.2.2.2.2⟩ (fun hH21 => ?_)
              obtain ⟨w3, hw3⟩ : ∃ w3 : World, w3 = (((((wy.setCell ⟨w2.heap.size, 0, none⟩ (.int .i64 x.trip)).setCell ⟨w2.heap.size, 1, none⟩ (.int .i64 x.frm)).setCell ⟨w2.heap.size, 2, none⟩ (.int .i64 x.dst)).setCell ⟨w2.heap.size, 3, none⟩ (.int .i64 x.dep)).setCell ⟨w2.heap.size, 4, none⟩ (.int .i64 x.arr)) := ⟨_, rfl⟩
              obtain ⟨B, hB⟩ : ∃ B : Nat, B = w2.heap.size := ⟨_, rfl⟩
              have b0 : w3.cell? ⟨B, 0, none⟩ = some (.int .i64 x.trip) := by rw [hw3, hB]; go_simp
              have b1 : w3.cell? ⟨B, 1, none⟩ = some (.int .i64 x.frm) := by rw [hw3, hB]; go_simp
              have b2 : w3.cell? ⟨B, 2, none⟩ = some (.int .i64 x.dst) := by rw [hw3, hB]; go_simp
              have b3 : w3.cell? ⟨B, 3, none⟩ = some (.int .i64 x.dep) := by rw [hw3, hB]; go_simp
              have b4 : w3.cell? ⟨B, 4, none⟩ = some (.int .i64 x.arr) := by rw [hw3, hB]; go_simp
              have HR3 : Hid (Below wo.heap.size wo w3) := by show Below _ _ _; rw [hw3]; exact set5_below HRz.out (by omega)
              have HB3 : Hid (Below w.heap.size w w3) := HB.out.trans (HR3.out.mono HB.out.size)
              rw [← hw3, ← hB]
              rw [← hw3] at hH21
              have hS3 := hH21
              obtain ⟨p0, p1, p2, -, -, -⟩ := hH21
              clear hw3 hB hBB zz0 zz1 zz2 zz3 zz4 zl zf HBz HRz
              clear hK K
              try simp only [Act.put, List.setIfInBounds_toArray, List.set_cons_zero, List.set_cons_succ]
              refine wpAnyH_take (i := 22) (v := ?_) (by simp only [List.getElem?_toArray, List.getElem?_cons_succ, List.getElem?_cons_zero]; rfl) (by kernel_rfl) (by kernel_rfl) (by kernel_rfl) (by exact fun _ _ _ h => h) (Or.inl ⟨by rfl, ?_⟩) (by assumption) ?_
              rotate_left
              · intro w' hSw; obtain ⟨e0, e1, e2, e3, e4, e5⟩ := hSw
                go_simp; try with_reducible rfl
              try simp only [Act.put, List.setIfInBounds_toArray, List.set_cons_zero, List.set_cons_succ]
              refine wpAnyH_done (by kernel_rfl) ?_ _
              clear hS3
              have hE := neqLeg x x
              have hGd := guardLeg
              rw [hyx] at hE
              have HLr := Lib.hid (leg_at (HL.out.below rfl HB3.out) k hlt)
              obtain ⟨g', go', hg', -, v0, v1, v2, v3, v4⟩ := HLr.out
              simp at hg'
              obtain ⟨rfl, rfl⟩ := hg'
              clear HLr
              simp only [hx] at v0 v1 v2 v3 v4
              go_wp2_with fail
              go_quiet (fail)
              go_wp2_with fail
              go_loopw [10] (fun q wr => ∃ m : Nat, m ≤ k ∧ q = .int .i64 m ∧ Hid (∀ j (hj : j < cs.length), j < m → cs[j].trip ≠ x.trip) ∧ Hid (Below w3.heap.size w3 wr)) (fun q _ => k - (RowKit.intOf q).toNat)
              case atStart => exact ⟨0, Nat.zero_le _, rfl, (fun j _ h => by omega), (Dr.below ⟨_, rfl⟩)⟩
              case round =>
                clear v0 v1 v2 v3 v4 hE
                obtain ⟨m, hm, rfl, HNm, HBm⟩ := hrel
                have HBr : Hid (Below w.heap.size w wr) := HB3.out.trans (HBm.out.mono HB3.out.size)
                have hq0 := bkeep HBm.out b0
                have hq1 := bkeep HBm.out b1
                have hq3 := bkeep HBm.out b3
                have hzr : w.heap.size ≤ wr.heap.size := HBr.out.size
                by_cases hmk : m < k
                · clear p0 p1 p2 b0 b1 b2 b3 b4 hq1 hq3
                  obtain ⟨g', go', hg', -, u0, -, -, -, -⟩ := leg_at (HL.out.below rfl HBr.out) m (by omega)
                  simp at hg'
                  obtain ⟨rfl, rfl⟩ := hg'
                  have hm1 : (m : Int) < (k : Int) := by omega
                  have hm2 : (m : Int) < (cs.length : Int) := by omega
                  by_cases ht : (cs[m]'(by omega)).trip = x.trip
                  · have HN : Hid (jrnB (allLegs (rides t)) ch cs = false) := jrn_no hlt fun h => h.2.1 m hmk (by rw [hx]; exact ht)
                    rw [ht] at u0
                    clear ht
                    go_wp2_with fail
                    go_quiet (fail)
                    go_wp2_with fail
                    go_ret
                    exact ⟨ret_bool (by rw [HN.out]), HBr.out.trans ((Dr.below ⟨_, rfl⟩).mono hzr)⟩
                  · have HNm2 : Hid (∀ j (hj : j < cs.length), j < m + 1 → cs[j].trip ≠ x.trip) := fun j hj hjm => by
                      by_cases e : j = m
                      · subst e; exact ht
                      · exact HNm.out j hj (by omega)
                    have HBm2 := HBm.out.size
                    generalize (cs[m]'(by omega)).trip = tm at *
                    go_wp2_with fail
                    go_quiet (fail)
                    go_wp2_with fail
                    go_roundw
                    case rel => exact ⟨m + 1, by omega, by go_num, HNm2, HBm.out.trans ((Dr.below ⟨_, rfl⟩).mono HBm2)⟩
                    case measure => simp [RowKit.intOf]; omega
                · obtain rfl : m = k := by omega
                  have hm1 : ¬ (m : Int) < (m : Int) := by omega
                  have e0 := bkeep HBm.out p0
                  have e1 := bkeep HBm.out p1
                  have e2 := bkeep HBm.out p2
                  have hzz := hz.out
                  have hzw : Hid (w.heap.size < wr.heap.size) := by show _ < _; have h1 := HR3.out.size; have h2 := HBm.out.size; omega
                  clear p0 p1 p2 b0 b1 b2 b3 b4 hmk
                  by_cases hk0 : m = 0
                  · subst hk0
                    have HS1 : Hid (StepsTo (allLegs (rides t)) ch cs (0 + 1)) := stepsTo_succ hlt HSt.out ⟨by rw [hx]; exact HXL.out, fun j hj => by omega, fun j hj => by omega⟩
                    clear hq0 hq1 hq3 HSt HNm
                    go_wp2_with fail
                    go_quiet (fail)
                    go_wp2_with fail
                    go_roundw
                    case rel => exact ⟨0 + 1, by omega, by go_num, HS1, e0, e1, e2, by show _ < _; have := hzw.out; simpa using this, HBr.out.trans ((Dr.below ⟨_, rfl⟩).mono hzr)⟩
                    case measure => simp [RowKit.intOf]; omega
                  · obtain ⟨k', rfl⟩ : ∃ k', m = k' + 1 := ⟨m - 1, by omega⟩
                    obtain ⟨g', go', hg', -, -, -, u2, -, u4⟩ := leg_at (HL.out.below rfl HBr.out) k' (by omega)
                    simp at hg'
                    obtain ⟨rfl, rfl⟩ := hg'
                    obtain ⟨pv, hy⟩ : ∃ pv, (cs[k']'(by omega)) = pv := ⟨_, rfl⟩
                    simp only [hy] at u2 u4
                    have hyL := (HSt.out k' (by omega) (by omega)).1
                    rw [hy] at hyL
                    have hyb := legs_bound HG.out pv hyL
                    have hwr : IntKind.i64.wrap (pv.arr + ch) = pv.arr + ch := IntWalk.i64_in _ (by omega)
                    have hk2 : (0 : Int) < ((k' + 1 : Nat) : Int) := by omega
                    have hk3 : ((k' + 1 : Nat) : Int) - 1 = (k' : Int) := by omega
                    have hk4 : (k' : Int) < (cs.length : Int) := by omega
                    have hk5 : (0 : Int) ≤ (k' : Int) := by omega
                    have hwk : IntKind.i64.wrap (((k' + 1 : Nat) : Int) - 1) = (k' : Int) := by rw [hk3]; exact IntWalk.i64_in _ (by omega)
                    push_cast at hk2 hk3 hwk
                    by_cases hds : pv.dst = x.frm
                    · by_cases hdp : x.dep < pv.arr + ch
                      · have HN : Hid (jrnB (allLegs (rides t)) ch cs = false) := jrn_no hlt fun h => by
                          have h1 := (h.2.2 k' rfl).2
                          rw [hx, hy] at h1; omega
                        clear HSt HNm hyb hyL
                        rw [hds] at u2
                        go_wp2_with fail
                        go_quiet (fail)
                        go_wp2_with fail
                        go_ret
                        exact ⟨ret_bool (by rw [HN.out]), HBr.out.trans ((Dr.below ⟨_, rfl⟩).mono hzr)⟩
                      · have HS1 : Hid (StepsTo (allLegs (rides t)) ch cs (k' + 1 + 1)) := stepsTo_succ hlt HSt.out ⟨by rw [hx]; exact HXL.out, fun j hj => by rw [hx]; exact HNm.out j (by omega) hj, fun j hj => by
                          obtain rfl : j = k' := by omega
                          rw [hx, hy]; exact ⟨hds, by omega⟩⟩
                        clear HSt HNm hyb hyL
                        rw [hds] at u2
                        go_wp2_with fail
                        go_quiet (fail)
                        go_wp2_with fail
                        go_roundw
                        case rel => exact ⟨k' + 1 + 1, by omega, by go_num, HS1, e0, e1, e2, by show _ < _; have := hzw.out; simpa using this, HBr.out.trans ((Dr.below ⟨_, rfl⟩).mono hzr)⟩
                        case measure => simp [RowKit.intOf]; omega
                    · have HN : Hid (jrnB (allLegs (rides t)) ch cs = false) := jrn_no hlt fun h => by
                        have h1 := (h.2.2 k' rfl).1
                        rw [hx, hy] at h1; exact hds h1
                      clear HSt HNm hyb hyL
                      have hds' : (pv.dst != x.frm) = true := by simp [hds]
                      go_wp2_with fail
                      go_quiet (fail)
                      go_wp2_with fail
                      go_ret
                      exact ⟨ret_bool (by rw [HN.out]), HBr.out.trans ((Dr.below ⟨_, rfl⟩).mono hzr)⟩
            · go_simp
              obtain ⟨wy, hwy⟩ : ∃ wy : World, wy = ((wo.alloc (.cells #[.int .i64 0, .int .i64 0, .int .i64 0, .int .i64 0, .int .i64 0] 62)).drew) := ⟨_, rfl⟩
              have HZy : Hid (Z5 wy wo.heap.size) := by rw [hwy]; exact Z5.new wo
              have rby : Below wo.heap.size wo wy := by rw [hwy]; exact ((Below.refl _ _).alloc (Nat.le_refl _) _).drew
              have HBy : Hid (Below w.heap.size w wy) := HB.out.trans (rby.mono HB.out.size)
              have HRy : Hid (Below wo.heap.size wo wy) := rby
              have hSy : wy.cell? ⟨w.heap.size, 0, none⟩ = some (.slice a t.net.stops.length c) ∧ wy.cell? ⟨w.heap.size, 1, none⟩ = some (.slice a' t.net.lines.length c') ∧ wy.cell? ⟨w.heap.size, 2, none⟩ = some (.slice b t.trips.length d) ∧ wy.cell? ⟨g, go + k * 5, none⟩ = some (.int .i64 x.trip) ∧ wy.cell? ⟨g, go + k * 5 + 1, none⟩ = some (.int .i64 x.frm) ∧ wy.cell? ⟨g, go + k * 5 + 2, none⟩ = some (.int .i64 x.dst) := ⟨bkeep rby p0, bkeep rby p1, bkeep rby p2, bkeep rby y0, bkeep rby y1, bkeep rby y2⟩
              rw [← hwy]
              clear hwy rby
              refine hK.out _ _ hSy (fun hH20 => ?_)
              clear hK K
              try simp only [Act.put, List.setIfInBounds_toArray, List.set_cons_zero, List.set_cons_succ]
              refine wpAnyH_ready (rs := [16]) (by kernel_rfl) (by simp) ?_
              refine AllReadyH.cons (by simp only [List.getElem?_toArray, List.getElem?_cons_succ, List.getElem?_cons_zero]; rfl) (fun K hK => ?_) AllReadyH.nil
              go_simp
              go_at_call 109
              refine (HFl.out _ (HBy.out)).mono ?_
              rintro e w2 ⟨rfl, hb⟩
              have rb : Below wy.heap.size wy w2 := hb
              have hS2 : w2.cell? ⟨w.heap.size, 0, none⟩ = some (.slice a t.net.stops.length c) ∧ w2.cell? ⟨w.heap.size, 1, none⟩ = some (.slice a' t.net.lines.length c') ∧ w2.cell? ⟨w.heap.size, 2, none⟩ = some (.slice b t.trips.length d) ∧ w2.cell? ⟨g, go + k * 5, none⟩ = some (.int .i64 x.trip) ∧ w2.cell? ⟨g, go + k * 5 + 1, none⟩ = some (.int .i64 x.frm) ∧ w2.cell? ⟨g, go + k * 5 + 2, none⟩ = some (.int .i64 x.dst) := ⟨bkeep rb hH20.1, bkeep rb hH20.2.1, bkeep rb hH20.2.2.1, bkeep rb hH20.2.2.2.1, bkeep rb hH20.2.2.2.2.1, bkeep rb hH20.2.2.2.2.2⟩
              have HB2 : Hid (Below w.heap.size w w2) := HBy.out.trans (rb.mono HBy.out.size)
              have HZ2 := Lib.hid (HZy.out.later rb)
              have HR2 : Hid (Below wo.heap.size wo w2) := HRy.out.trans (rb.mono HRy.out.size)
              clear hb rb
              go_wp2_with fail
              refine hK.out _ _ hS2 (fun hH16 => ?_)
              clear hK K
              try simp only [Act.put, List.setIfInBounds_toArray, List.set_cons_zero, List.set_cons_succ]
              refine wpAnyH_take (i := 17) (v := ?_) (by simp only [List.getElem?_toArray, List.getElem?_cons_succ, List.getElem?_cons_zero]; rfl) (by kernel_rfl) (by kernel_rfl) (by kernel_rfl) (by exact fun _ _ _ h => h) (Or.inl ⟨by rfl, ?_⟩) (by assumption) ?_
              rotate_left
              · intro w' hSw; obtain ⟨e0, e1, e2, e3, e4, e5⟩ := hSw
                go_simp; try with_reducible rfl
              try simp only [Act.put, List.setIfInBounds_toArray, List.set_cons_zero, List.set_cons_succ]
              refine wpAnyH_take (i := 18) (v := ?_) (by simp only [List.getElem?_toArray, List.getElem?_cons_succ, List.getElem?_cons_zero]; rfl) (by kernel_rfl) (by kernel_rfl) (by kernel_rfl) (by exact fun _ _ _ h => h) (Or.inl ⟨by rfl, ?_⟩) (by assumption) ?_
              rotate_left
              · intro w' hSw; obtain ⟨e0, e1, e2, e3, e4, e5⟩ := hSw
                go_simp; try with_reducible rfl
              try simp only [Act.put, List.setIfInBounds_toArray, List.set_cons_zero, List.set_cons_succ]
              refine wpAnyH_take (i := 19) (v := ?_) (by simp only [List.getElem?_toArray, List.getElem?_cons_succ, List.getElem?_cons_zero]; rfl) (by kernel_rfl) (by kernel_rfl) (by kernel_rfl) (by exact fun _ _ _ h => h) (Or.inl ⟨by rfl, ?_⟩) (by assumption) ?_
              rotate_left
              · intro w' hSw; obtain ⟨e0, e1, e2, e3, e4, e5⟩ := hSw
                go_simp; try with_reducible rfl
              try simp only [Act.put, List.setIfInBounds_toArray, List.set_cons_zero, List.set_cons_succ]
              refine wpAnyH_ready (rs := [21]) (by kernel_rfl) (by simp) ?_
              refine AllReadyH.cons (by simp only [List.getElem?_toArray, List.getElem?_cons_succ, List.getElem?_cons_zero]; rfl) (fun K hK => ?_) AllReadyH.nil
              have HBz := HB2
              have HRz := HR2
              have hBB : wo.heap.size ≤ wo.heap.size ∧ w.heap.size < wo.heap.size := by have := HB.out.size; have := hz.out; omega
              have hgB : g < wo.heap.size := hgb
              obtain ⟨zz0, zz1, zz2, zz3, zz4, zl, zf⟩ := HZ2.out
              go_simp
              refine hK.out _ _ ⟨(set5_cell (by dsimp only; omega)).trans hH16.1, (set5_cell (by dsimp only; omega)).trans hH16.2.1, (set5_cell (by dsimp only; omega)).trans hH16.2.2.1, (set5_cell (by dsimp only; omega)).trans hH16.2.2.2.1, (set5_cell (by dsimp only; omega)).trans hH16.2.2.2.2.1, (set5_cell (by dsimp only; omega)).trans hH16.2.2.2.2.2⟩ (fun hH21 => ?_)
              obtain ⟨w3, hw3⟩ : ∃ w3 : World, w3 = (((((w2.setCell ⟨wo.heap.size, 0, none⟩ (.int .i64 x.trip)).setCell ⟨wo.heap.size, 1, none⟩ (.int .i64 x.frm)).setCell ⟨wo.heap.size, 2, none⟩ (.int .i64 x.dst)).setCell ⟨wo.heap.size, 3, none⟩ (.int .i64 x.dep)).setCell ⟨wo.heap.size, 4, none⟩ (.int .i64 x.arr)) := ⟨_, rfl⟩
              obtain ⟨B, hB⟩ : ∃ B : Nat, B = wo.heap.size := ⟨_, rfl⟩
              have b0 : w3.cell? ⟨B, 0, none⟩ = some (.int .i64 x.trip) := by rw [hw3, hB]; go_simp
              have b1 : w3.cell? ⟨B, 1, none⟩ = some (.int .i64 x.frm) := by rw [hw3, hB]; go_simp
              have b2 : w3.cell? ⟨B, 2, none⟩ = some (.int .i64 x.dst) := by rw [hw3, hB]; go_simp
              have b3 : w3.cell? ⟨B, 3, none⟩ = some (.int .i64 x.dep) := by rw [hw3, hB]; go_simp
              have b4 : w3.cell? ⟨B, 4, none⟩ = some (.int .i64 x.arr) := by rw [hw3, hB]; go_simp
              have HR3 : Hid (Below wo.heap.size wo w3) := by show Below _ _ _; rw [hw3]; exact set5_below HRz.out (by omega)
              have HB3 : Hid (Below w.heap.size w w3) := HB.out.trans (HR3.out.mono HB.out.size)
              rw [← hw3, ← hB]
              rw [← hw3] at hH21
              have hS3 := hH21
              obtain ⟨p0, p1, p2, -, -, -⟩ := hH21
              clear hw3 hB hBB zz0 zz1 zz2 zz3 zz4 zl zf HBz HRz
              clear hK K
              try simp only [Act.put, List.setIfInBounds_toArray, List.set_cons_zero, List.set_cons_succ]
              refine wpAnyH_take (i := 22) (v := ?_) (by simp only [List.getElem?_toArray, List.getElem?_cons_succ, List.getElem?_cons_zero]; rfl) (by kernel_rfl) (by kernel_rfl) (by kernel_rfl) (by exact fun _ _ _ h => h) (Or.inl ⟨by rfl, ?_⟩) (by assumption) ?_
              rotate_left
              · intro w' hSw; obtain ⟨e0, e1, e2, e3, e4, e5⟩ := hSw
                go_simp; try with_reducible rfl
              try simp only [Act.put, List.setIfInBounds_toArray, List.set_cons_zero, List.set_cons_succ]
              refine wpAnyH_done (by kernel_rfl) ?_ _
              clear hS3
              have hE := neqLeg x x
              have hGd := guardLeg
              rw [hyx] at hE
              have HLr := Lib.hid (leg_at (HL.out.below rfl HB3.out) k hlt)
              obtain ⟨g', go', hg', -, v0, v1, v2, v3, v4⟩ := HLr.out
              simp at hg'
              obtain ⟨rfl, rfl⟩ := hg'
              clear HLr
              simp only [hx] at v0 v1 v2 v3 v4
              go_wp2_with fail
              go_quiet (fail)
              go_wp2_with fail
              go_loopw [10] (fun q wr => ∃ m : Nat, m ≤ k ∧ q = .int .i64 m ∧ Hid (∀ j (hj : j < cs.length), j < m → cs[j].trip ≠ x.trip) ∧ Hid (Below w3.heap.size w3 wr)) (fun q _ => k - (RowKit.intOf q).toNat)
              case atStart => exact ⟨0, Nat.zero_le _, rfl, (fun j _ h => by omega), (Dr.below ⟨_, rfl⟩)⟩
              case round =>
                clear v0 v1 v2 v3 v4 hE
                obtain ⟨m, hm, rfl, HNm, HBm⟩ := hrel
                have HBr : Hid (Below w.heap.size w wr) := HB3.out.trans (HBm.out.mono HB3.out.size)
                have hq0 := bkeep HBm.out b0
                have hq1 := bkeep HBm.out b1
                have hq3 := bkeep HBm.out b3
                have hzr : w.heap.size ≤ wr.heap.size := HBr.out.size
                by_cases hmk : m < k
                · clear p0 p1 p2 b0 b1 b2 b3 b4 hq1 hq3
                  obtain ⟨g', go', hg', -, u0, -, -, -, -⟩ := leg_at (HL.out.below rfl HBr.out) m (by omega)
                  simp at hg'
                  obtain ⟨rfl, rfl⟩ := hg'
                  have hm1 : (m : Int) < (k : Int) := by omega
                  have hm2 : (m : Int) < (cs.length : Int) := by omega
                  by_cases ht : (cs[m]'(by omega)).trip = x.trip
                  · have HN : Hid (jrnB (allLegs (rides t)) ch cs = false) := jrn_no hlt fun h => h.2.1 m hmk (by rw [hx]; exact ht)
                    rw [ht] at u0
                    clear ht
                    go_wp2_with fail
                    go_quiet (fail)
                    go_wp2_with fail
                    go_ret
                    exact ⟨ret_bool (by rw [HN.out]), HBr.out.trans ((Dr.below ⟨_, rfl⟩).mono hzr)⟩
                  · have HNm2 : Hid (∀ j (hj : j < cs.length), j < m + 1 → cs[j].trip ≠ x.trip) := fun j hj hjm => by
                      by_cases e : j = m
                      · subst e; exact ht
                      · exact HNm.out j hj (by omega)
                    have HBm2 := HBm.out.size
                    generalize (cs[m]'(by omega)).trip = tm at *
                    go_wp2_with fail
                    go_quiet (fail)
                    go_wp2_with fail
                    go_roundw
                    case rel => exact ⟨m + 1, by omega, by go_num, HNm2, HBm.out.trans ((Dr.below ⟨_, rfl⟩).mono HBm2)⟩
                    case measure => simp [RowKit.intOf]; omega
                · obtain rfl : m = k := by omega
                  have hm1 : ¬ (m : Int) < (m : Int) := by omega
                  have e0 := bkeep HBm.out p0
                  have e1 := bkeep HBm.out p1
                  have e2 := bkeep HBm.out p2
                  have hzz := hz.out
                  have hzw : Hid (w.heap.size < wr.heap.size) := by show _ < _; have h1 := HR3.out.size; have h2 := HBm.out.size; omega
                  clear p0 p1 p2 b0 b1 b2 b3 b4 hmk
                  by_cases hk0 : m = 0
                  · subst hk0
                    have HS1 : Hid (StepsTo (allLegs (rides t)) ch cs (0 + 1)) := stepsTo_succ hlt HSt.out ⟨by rw [hx]; exact HXL.out, fun j hj => by omega, fun j hj => by omega⟩
                    clear hq0 hq1 hq3 HSt HNm
                    go_wp2_with fail
                    go_quiet (fail)
                    go_wp2_with fail
                    go_roundw
                    case rel => exact ⟨0 + 1, by omega, by go_num, HS1, e0, e1, e2, by show _ < _; have := hzw.out; simpa using this, HBr.out.trans ((Dr.below ⟨_, rfl⟩).mono hzr)⟩
                    case measure => simp [RowKit.intOf]; omega
                  · obtain ⟨k', rfl⟩ : ∃ k', m = k' + 1 := ⟨m - 1, by omega⟩
                    obtain ⟨g', go', hg', -, -, -, u2, -, u4⟩ := leg_at (HL.out.below rfl HBr.out) k' (by omega)
                    simp at hg'
                    obtain ⟨rfl, rfl⟩ := hg'
                    obtain ⟨pv, hy⟩ : ∃ pv, (cs[k']'(by omega)) = pv := ⟨_, rfl⟩
                    simp only [hy] at u2 u4
                    have hyL := (HSt.out k' (by omega) (by omega)).1
                    rw [hy] at hyL
                    have hyb := legs_bound HG.out pv hyL
                    have hwr : IntKind.i64.wrap (pv.arr + ch) = pv.arr + ch := IntWalk.i64_in _ (by omega)
                    have hk2 : (0 : Int) < ((k' + 1 : Nat) : Int) := by omega
                    have hk3 : ((k' + 1 : Nat) : Int) - 1 = (k' : Int) := by omega
                    have hk4 : (k' : Int) < (cs.length : Int) := by omega
                    have hk5 : (0 : Int) ≤ (k' : Int) := by omega
                    have hwk : IntKind.i64.wrap (((k' + 1 : Nat) : Int) - 1) = (k' : Int) := by rw [hk3]; exact IntWalk.i64_in _ (by omega)
                    push_cast at hk2 hk3 hwk
                    by_cases hds : pv.dst = x.frm
                    · by_cases hdp : x.dep < pv.arr + ch
                      · have HN : Hid (jrnB (allLegs (rides t)) ch cs = false) := jrn_no hlt fun h => by
                          have h1 := (h.2.2 k' rfl).2
                          rw [hx, hy] at h1; omega
                        clear HSt HNm hyb hyL
                        rw [hds] at u2
                        go_wp2_with fail
                        go_quiet (fail)
                        go_wp2_with fail
                        go_ret
                        exact ⟨ret_bool (by rw [HN.out]), HBr.out.trans ((Dr.below ⟨_, rfl⟩).mono hzr)⟩
                      · have HS1 : Hid (StepsTo (allLegs (rides t)) ch cs (k' + 1 + 1)) := stepsTo_succ hlt HSt.out ⟨by rw [hx]; exact HXL.out, fun j hj => by rw [hx]; exact HNm.out j (by omega) hj, fun j hj => by
                          obtain rfl : j = k' := by omega
                          rw [hx, hy]; exact ⟨hds, by omega⟩⟩
                        clear HSt HNm hyb hyL
                        rw [hds] at u2
                        go_wp2_with fail
                        go_quiet (fail)
                        go_wp2_with fail
                        go_roundw
                        case rel => exact ⟨k' + 1 + 1, by omega, by go_num, HS1, e0, e1, e2, by show _ < _; have := hzw.out; simpa using this, HBr.out.trans ((Dr.below ⟨_, rfl⟩).mono hzr)⟩
                        case measure => simp [RowKit.intOf]; omega
                    · have HN : Hid (jrnB (allLegs (rides t)) ch cs = false) := jrn_no hlt fun h => by
                        have h1 := (h.2.2 k' rfl).1
                        rw [hx, hy] at h1; exact hds h1
                      clear HSt HNm hyb hyL
                      have hds' : (pv.dst != x.frm) = true := by simp [hds]
                      go_wp2_with fail
                      go_quiet (fail)
                      go_wp2_with fail
                      go_ret
                      exact ⟨ret_bool (by rw [HN.out]), HBr.out.trans ((Dr.below ⟨_, rfl⟩).mono hzr)⟩

          · have HN : Hid (jrnB (allLegs (rides t)) ch cs = false) := jrn_no hlt fun h => by
              have h1 := fillF_of (rides_ok HG.out) h.1
              rw [hx, ho] at h1; cases h1; exact he rfl
            have hyx : legEqB y x = false := by
              cases hq : legEqB y x with
              | false => rfl
              | true => exact absurd ((legEqB_iff _ _).1 hq) he
            clear ho hy he hyL
            go_wp2_with fail
            refine wp_region_held_drew (S := (fun w' => w'.cell? ⟨w.heap.size, 0, none⟩ = some (.slice a t.net.stops.length c) ∧ w'.cell? ⟨w.heap.size, 1, none⟩ = some (.slice a' t.net.lines.length c') ∧ w'.cell? ⟨w.heap.size, 2, none⟩ = some (.slice b t.trips.length d) ∧ w'.cell? ⟨g, go + k * 5, none⟩ = some (.int .i64 x.trip) ∧ w'.cell? ⟨g, go + k * 5 + 1, none⟩ = some (.int .i64 x.frm) ∧ w'.cell? ⟨g, go + k * 5 + 2, none⟩ = some (.int .i64 x.dst))) (by kernel_rfl) ?_ (fun hHeld => ?_)
            · exact ⟨p0, p1, p2, y0, y1, y2⟩
            refine wpAnyH_take (i := 0) (v := ?_) (by simp only [List.getElem?_toArray, List.getElem?_cons_zero]; rfl) (by kernel_rfl) (by kernel_rfl) (by kernel_rfl) (by exact fun _ _ _ h => h) (Or.inl ⟨by rfl, ?_⟩) (by assumption) ?_
            rotate_left
            · intro w' hSw; obtain ⟨e0, e1, e2, e3, e4, e5⟩ := hSw
              go_simp; try with_reducible rfl
            try simp only [Act.put, List.setIfInBounds_toArray, List.set_cons_zero, List.set_cons_succ]
            refine wpAnyH_take (i := 1) (v := ?_) (by simp only [List.getElem?_toArray, List.getElem?_cons_succ, List.getElem?_cons_zero]; rfl) (by kernel_rfl) (by kernel_rfl) (by kernel_rfl) (by exact fun _ _ _ h => h) (Or.inl ⟨by rfl, ?_⟩) (by assumption) ?_
            rotate_left
            · intro w' hSw; obtain ⟨e0, e1, e2, e3, e4, e5⟩ := hSw
              go_simp; try with_reducible rfl
            try simp only [Act.put, List.setIfInBounds_toArray, List.set_cons_zero, List.set_cons_succ]
            refine wpAnyH_take (i := 2) (v := ?_) (by simp only [List.getElem?_toArray, List.getElem?_cons_succ, List.getElem?_cons_zero]; rfl) (by kernel_rfl) (by kernel_rfl) (by kernel_rfl) (by exact fun _ _ _ h => h) (Or.inl ⟨by rfl, ?_⟩) (by assumption) ?_
            rotate_left
            · intro w' hSw; obtain ⟨e0, e1, e2, e3, e4, e5⟩ := hSw
              go_simp; try with_reducible rfl
            try simp only [Act.put, List.setIfInBounds_toArray, List.set_cons_zero, List.set_cons_succ]
            refine wpAnyH_take (i := 3) (v := ?_) (by simp only [List.getElem?_toArray, List.getElem?_cons_succ, List.getElem?_cons_zero]; rfl) (by kernel_rfl) (by kernel_rfl) (by kernel_rfl) (by exact fun _ _ _ h => h) (Or.inl ⟨by rfl, ?_⟩) (by assumption) ?_
            rotate_left
            · intro w' hSw; obtain ⟨e0, e1, e2, e3, e4, e5⟩ := hSw
              go_simp; try with_reducible rfl
            try simp only [Act.put, List.setIfInBounds_toArray, List.set_cons_zero, List.set_cons_succ]
            refine wpAnyH_take (i := 4) (v := ?_) (by simp only [List.getElem?_toArray, List.getElem?_cons_succ, List.getElem?_cons_zero]; rfl) (by kernel_rfl) (by kernel_rfl) (by kernel_rfl) (by exact fun _ _ _ h => h) (Or.inl ⟨by rfl, ?_⟩) (by assumption) ?_
            rotate_left
            · intro w' hSw; obtain ⟨e0, e1, e2, e3, e4, e5⟩ := hSw
              go_simp; try with_reducible rfl
            try simp only [Act.put, List.setIfInBounds_toArray, List.set_cons_zero, List.set_cons_succ]
            refine wpAnyH_take (i := 5) (v := ?_) (by simp only [List.getElem?_toArray, List.getElem?_cons_succ, List.getElem?_cons_zero]; rfl) (by kernel_rfl) (by kernel_rfl) (by kernel_rfl) (by exact fun _ _ _ h => h) (Or.inl ⟨by rfl, ?_⟩) (by assumption) ?_
            rotate_left
            · intro w' hSw; obtain ⟨e0, e1, e2, e3, e4, e5⟩ := hSw
              go_simp; try with_reducible rfl
            try simp only [Act.put, List.setIfInBounds_toArray, List.set_cons_zero, List.set_cons_succ]
            refine wpAnyH_take (i := 6) (v := ?_) (by simp only [List.getElem?_toArray, List.getElem?_cons_succ, List.getElem?_cons_zero]; rfl) (by kernel_rfl) (by kernel_rfl) (by kernel_rfl) (by exact fun _ _ _ h => h) (Or.inl ⟨by rfl, ?_⟩) (by assumption) ?_
            rotate_left
            · intro w' hSw; obtain ⟨e0, e1, e2, e3, e4, e5⟩ := hSw
              go_simp; try with_reducible rfl
            try simp only [Act.put, List.setIfInBounds_toArray, List.set_cons_zero, List.set_cons_succ]
            refine wpAnyH_take (i := 7) (v := ?_) (by simp only [List.getElem?_toArray, List.getElem?_cons_succ, List.getElem?_cons_zero]; rfl) (by kernel_rfl) (by kernel_rfl) (by kernel_rfl) (by exact fun _ _ _ h => h) (Or.inl ⟨by rfl, ?_⟩) (by assumption) ?_
            rotate_left
            · intro w' hSw; obtain ⟨e0, e1, e2, e3, e4, e5⟩ := hSw
              go_simp; try with_reducible rfl
            try simp only [Act.put, List.setIfInBounds_toArray, List.set_cons_zero, List.set_cons_succ]
            refine wpAnyH_take (i := 8) (v := ?_) (by simp only [List.getElem?_toArray, List.getElem?_cons_succ, List.getElem?_cons_zero]; rfl) (by kernel_rfl) (by kernel_rfl) (by kernel_rfl) (by exact fun _ _ _ h => h) (Or.inl ⟨by rfl, ?_⟩) (by assumption) ?_
            rotate_left
            · intro w' hSw; obtain ⟨e0, e1, e2, e3, e4, e5⟩ := hSw
              go_simp; try with_reducible rfl
            try simp only [Act.put, List.setIfInBounds_toArray, List.set_cons_zero, List.set_cons_succ]
            refine wpAnyH_take (i := 9) (v := ?_) (by simp only [List.getElem?_toArray, List.getElem?_cons_succ, List.getElem?_cons_zero]; rfl) (by kernel_rfl) (by kernel_rfl) (by kernel_rfl) (by exact fun _ _ _ h => h) (Or.inl ⟨by rfl, ?_⟩) (by assumption) ?_
            rotate_left
            · intro w' hSw; obtain ⟨e0, e1, e2, e3, e4, e5⟩ := hSw
              go_simp; try with_reducible rfl
            try simp only [Act.put, List.setIfInBounds_toArray, List.set_cons_zero, List.set_cons_succ]
            refine wpAnyH_take (i := 10) (v := ?_) (by simp only [List.getElem?_toArray, List.getElem?_cons_succ, List.getElem?_cons_zero]; rfl) (by kernel_rfl) (by kernel_rfl) (by kernel_rfl) (by exact fun _ _ _ h => h) (Or.inl ⟨by rfl, ?_⟩) (by assumption) ?_
            rotate_left
            · intro w' hSw; obtain ⟨e0, e1, e2, e3, e4, e5⟩ := hSw
              go_simp; try with_reducible rfl
            try simp only [Act.put, List.setIfInBounds_toArray, List.set_cons_zero, List.set_cons_succ]
            refine wpAnyH_take (i := 11) (v := ?_) (by simp only [List.getElem?_toArray, List.getElem?_cons_succ, List.getElem?_cons_zero]; rfl) (by kernel_rfl) (by kernel_rfl) (by kernel_rfl) (by exact fun _ _ _ h => h) (Or.inl ⟨by rfl, ?_⟩) (by assumption) ?_
            rotate_left
            · intro w' hSw; obtain ⟨e0, e1, e2, e3, e4, e5⟩ := hSw
              go_simp; try with_reducible rfl
            try simp only [Act.put, List.setIfInBounds_toArray, List.set_cons_zero, List.set_cons_succ]
            refine wpAnyH_take (i := 12) (v := ?_) (by simp only [List.getElem?_toArray, List.getElem?_cons_succ, List.getElem?_cons_zero]; rfl) (by kernel_rfl) (by kernel_rfl) (by kernel_rfl) (by exact fun _ _ _ h => h) (Or.inl ⟨by rfl, ?_⟩) (by assumption) ?_
            rotate_left
            · intro w' hSw; obtain ⟨e0, e1, e2, e3, e4, e5⟩ := hSw
              go_simp; try with_reducible rfl
            try simp only [Act.put, List.setIfInBounds_toArray, List.set_cons_zero, List.set_cons_succ]
            refine wpAnyH_take (i := 13) (v := ?_) (by simp only [List.getElem?_toArray, List.getElem?_cons_succ, List.getElem?_cons_zero]; rfl) (by kernel_rfl) (by kernel_rfl) (by kernel_rfl) (by exact fun _ _ _ h => h) (Or.inl ⟨by rfl, ?_⟩) (by assumption) ?_
            rotate_left
            · intro w' hSw; obtain ⟨e0, e1, e2, e3, e4, e5⟩ := hSw
              go_simp; try with_reducible rfl
            try simp only [Act.put, List.setIfInBounds_toArray, List.set_cons_zero, List.set_cons_succ]
            refine wpAnyH_take (i := 14) (v := ?_) (by simp only [List.getElem?_toArray, List.getElem?_cons_succ, List.getElem?_cons_zero]; rfl) (by kernel_rfl) (by kernel_rfl) (by kernel_rfl) (by exact fun _ _ _ h => h) (Or.inl ⟨by rfl, ?_⟩) (by assumption) ?_
            rotate_left
            · intro w' hSw; obtain ⟨e0, e1, e2, e3, e4, e5⟩ := hSw
              go_simp; try with_reducible rfl
            try simp only [Act.put, List.setIfInBounds_toArray, List.set_cons_zero, List.set_cons_succ]
            refine wpAnyH_take (i := 15) (v := ?_) (by simp only [List.getElem?_toArray, List.getElem?_cons_succ, List.getElem?_cons_zero]; rfl) (by kernel_rfl) (by kernel_rfl) (by kernel_rfl) (by exact fun _ _ _ h => h) (Or.inl ⟨by rfl, ?_⟩) (by assumption) ?_
            rotate_left
            · intro w' hSw; obtain ⟨e0, e1, e2, e3, e4, e5⟩ := hSw
              go_simp; try with_reducible rfl
            try simp only [Act.put, List.setIfInBounds_toArray, List.set_cons_zero, List.set_cons_succ]
            refine wpAnyH_ready (rs := [16, 20]) (by kernel_rfl) (by simp) ?_
            refine AllReadyH.cons (by simp only [List.getElem?_toArray, List.getElem?_cons_succ, List.getElem?_cons_zero]; rfl) (fun K hK => ?_) (AllReadyH.cons (by simp only [List.getElem?_toArray, List.getElem?_cons_succ, List.getElem?_cons_zero]; rfl) (fun K hK => ?_) AllReadyH.nil)
            · go_simp
              go_at_call 109
              refine (HFl.out _ (HB.out.drew)).mono ?_
              rintro e w2 ⟨rfl, hb⟩
              have rb : Below wo.heap.size wo w2 := (Below.refl _ _).drew.trans hb
              have hS2 : w2.cell? ⟨w.heap.size, 0, none⟩ = some (.slice a t.net.stops.length c) ∧ w2.cell? ⟨w.heap.size, 1, none⟩ = some (.slice a' t.net.lines.length c') ∧ w2.cell? ⟨w.heap.size, 2, none⟩ = some (.slice b t.trips.length d) ∧ w2.cell? ⟨g, go + k * 5, none⟩ = some (.int .i64 x.trip) ∧ w2.cell? ⟨g, go + k * 5 + 1, none⟩ = some (.int .i64 x.frm) ∧ w2.cell? ⟨g, go + k * 5 + 2, none⟩ = some (.int .i64 x.dst) := ⟨bkeep rb p0, bkeep rb p1, bkeep rb p2, bkeep rb y0, bkeep rb y1, bkeep rb y2⟩
              have HB2 : Hid (Below w.heap.size w w2) := HB.out.trans (rb.mono HB.out.size)
              have HR2 : Hid (Below wo.heap.size wo w2) := rb
              clear hb rb
              go_wp2_with fail
              refine hK.out _ _ hS2 (fun hH16 => ?_)
              clear hK K
              try simp only [Act.put, List.setIfInBounds_toArray, List.set_cons_zero, List.set_cons_succ]
              refine wpAnyH_take (i := 17) (v := ?_) (by simp only [List.getElem?_toArray, List.getElem?_cons_succ, List.getElem?_cons_zero]; rfl) (by kernel_rfl) (by kernel_rfl) (by kernel_rfl) (by exact fun _ _ _ h => h) (Or.inl ⟨by rfl, ?_⟩) (by assumption) ?_
              rotate_left
              · intro w' hSw; obtain ⟨e0, e1, e2, e3, e4, e5⟩ := hSw
                go_simp; try with_reducible rfl
              try simp only [Act.put, List.setIfInBounds_toArray, List.set_cons_zero, List.set_cons_succ]
              refine wpAnyH_take (i := 18) (v := ?_) (by simp only [List.getElem?_toArray, List.getElem?_cons_succ, List.getElem?_cons_zero]; rfl) (by kernel_rfl) (by kernel_rfl) (by kernel_rfl) (by exact fun _ _ _ h => h) (Or.inl ⟨by rfl, ?_⟩) (by assumption) ?_
              rotate_left
              · intro w' hSw; obtain ⟨e0, e1, e2, e3, e4, e5⟩ := hSw
                go_simp; try with_reducible rfl
              try simp only [Act.put, List.setIfInBounds_toArray, List.set_cons_zero, List.set_cons_succ]
              refine wpAnyH_take (i := 19) (v := ?_) (by simp only [List.getElem?_toArray, List.getElem?_cons_succ, List.getElem?_cons_zero]; rfl) (by kernel_rfl) (by kernel_rfl) (by kernel_rfl) (by exact fun _ _ _ h => h) (Or.inl ⟨by rfl, ?_⟩) (by assumption) ?_
              rotate_left
              · intro w' hSw; obtain ⟨e0, e1, e2, e3, e4, e5⟩ := hSw
                go_simp; try with_reducible rfl
              try simp only [Act.put, List.setIfInBounds_toArray, List.set_cons_zero, List.set_cons_succ]
              refine wpAnyH_ready (rs := [20]) (by kernel_rfl) (by simp) ?_
              refine AllReadyH.cons (by simp only [List.getElem?_toArray, List.getElem?_cons_succ, List.getElem?_cons_zero]; rfl) (fun K hK => ?_) AllReadyH.nil
              go_simp
              obtain ⟨wy, hwy⟩ : ∃ wy : World, wy = (w2.alloc (.cells #[.int .i64 0, .int .i64 0, .int .i64 0, .int .i64 0, .int .i64 0] 62)) := ⟨_, rfl⟩
              have HZy : Hid (Z5 wy w2.heap.size) := by rw [hwy]; exact Z5.new w2
              have rby : Below w2.heap.size w2 wy := by rw [hwy]; exact (Below.refl _ _).alloc (Nat.le_refl _) _
              have HBy : Hid (Below w.heap.size w wy) := HB2.out.trans (rby.mono HB2.out.size)
              have HRy : Hid (Below wo.heap.size wo wy) := HR2.out.trans (rby.mono HR2.out.size)
              have hSy : wy.cell? ⟨w.heap.size, 0, none⟩ = some (.slice a t.net.stops.length c) ∧ wy.cell? ⟨w.heap.size, 1, none⟩ = some (.slice a' t.net.lines.length c') ∧ wy.cell? ⟨w.heap.size, 2, none⟩ = some (.slice b t.trips.length d) ∧ wy.cell? ⟨g, go + k * 5, none⟩ = some (.int .i64 x.trip) ∧ wy.cell? ⟨g, go + k * 5 + 1, none⟩ = some (.int .i64 x.frm) ∧ wy.cell? ⟨g, go + k * 5 + 2, none⟩ = some (.int .i64 x.dst) := ⟨bkeep rby hH16.1, bkeep rby hH16.2.1, bkeep rby hH16.2.2.1, bkeep rby hH16.2.2.2.1, bkeep rby hH16.2.2.2.2.1, bkeep rby hH16.2.2.2.2.2⟩
              rw [← hwy]
              clear hwy rby
              refine hK.out _ _ hSy (fun hH20 => ?_)
              clear hK K
              try simp only [Act.put, List.setIfInBounds_toArray, List.set_cons_zero, List.set_cons_succ]
              refine wpAnyH_ready (rs := [21]) (by kernel_rfl) (by simp) ?_
              refine AllReadyH.cons (by simp only [List.getElem?_toArray, List.getElem?_cons_succ, List.getElem?_cons_zero]; rfl) (fun K hK => ?_) AllReadyH.nil
              have HBz := HBy
              have HRz := HRy
              have hBB : wo.heap.size ≤ w2.heap.size ∧ w.heap.size < w2.heap.size := by have := HB.out.size; have := hz.out; have := HR2.out.size; omega
              have hgB : g < wo.heap.size := hgb
              obtain ⟨zz0, zz1, zz2, zz3, zz4, zl, zf⟩ := HZy.out
              go_simp
              refine hK.out _ _ ⟨(set5_cell (by dsimp only; omega)).trans hH20.1, (set5_cell (by dsimp only; omega)).trans hH20.2.1, (set5_cell (by dsimp only; omega)).trans hH20.2.2.1, (set5_cell (by dsimp only; omega)).trans hH20.2.2.2.1, (set5_cell (by dsimp only; omega)).trans hH20.2.2.2.2.1, (set5_cell (by dsimp only; omega)).trans hH20.2.2.2.2.2⟩ (fun hH21 => ?_)
              obtain ⟨w3, hw3⟩ : ∃ w3 : World, w3 = (((((wy.setCell ⟨w2.heap.size, 0, none⟩ (.int .i64 y.trip)).setCell ⟨w2.heap.size, 1, none⟩ (.int .i64 y.frm)).setCell ⟨w2.heap.size, 2, none⟩ (.int .i64 y.dst)).setCell ⟨w2.heap.size, 3, none⟩ (.int .i64 y.dep)).setCell ⟨w2.heap.size, 4, none⟩ (.int .i64 y.arr)) := ⟨_, rfl⟩
              obtain ⟨B, hB⟩ : ∃ B : Nat, B = w2.heap.size := ⟨_, rfl⟩
              have b0 : w3.cell? ⟨B, 0, none⟩ = some (.int .i64 y.trip) := by rw [hw3, hB]; go_simp
              have b1 : w3.cell? ⟨B, 1, none⟩ = some (.int .i64 y.frm) := by rw [hw3, hB]; go_simp
              have b2 : w3.cell? ⟨B, 2, none⟩ = some (.int .i64 y.dst) := by rw [hw3, hB]; go_simp
              have b3 : w3.cell? ⟨B, 3, none⟩ = some (.int .i64 y.dep) := by rw [hw3, hB]; go_simp
              have b4 : w3.cell? ⟨B, 4, none⟩ = some (.int .i64 y.arr) := by rw [hw3, hB]; go_simp
              have HR3 : Hid (Below wo.heap.size wo w3) := by show Below _ _ _; rw [hw3]; exact set5_below HRz.out (by omega)
              have HB3 : Hid (Below w.heap.size w w3) := HB.out.trans (HR3.out.mono HB.out.size)
              rw [← hw3, ← hB]
              rw [← hw3] at hH21
              have hS3 := hH21
              obtain ⟨p0, p1, p2, -, -, -⟩ := hH21
              clear hw3 hB hBB zz0 zz1 zz2 zz3 zz4 zl zf HBz HRz
              clear hK K
              try simp only [Act.put, List.setIfInBounds_toArray, List.set_cons_zero, List.set_cons_succ]
              refine wpAnyH_take (i := 22) (v := ?_) (by simp only [List.getElem?_toArray, List.getElem?_cons_succ, List.getElem?_cons_zero]; rfl) (by kernel_rfl) (by kernel_rfl) (by kernel_rfl) (by exact fun _ _ _ h => h) (Or.inl ⟨by rfl, ?_⟩) (by assumption) ?_
              rotate_left
              · intro w' hSw; obtain ⟨e0, e1, e2, e3, e4, e5⟩ := hSw
                go_simp; try with_reducible rfl
              try simp only [Act.put, List.setIfInBounds_toArray, List.set_cons_zero, List.set_cons_succ]
              refine wpAnyH_done (by kernel_rfl) ?_ _
              clear hS3
              have hE := neqLeg y x
              have hGd := guardLeg
              rw [hyx] at hE
              have HLr := Lib.hid (leg_at (HL.out.below rfl HB3.out) k hlt)
              obtain ⟨g', go', hg', -, v0, v1, v2, v3, v4⟩ := HLr.out
              simp at hg'
              obtain ⟨rfl, rfl⟩ := hg'
              clear HLr
              simp only [hx] at v0 v1 v2 v3 v4
              go_wp2_with fail
              go_quiet (fail)
              go_wp2_with fail
              go_ret
              exact ⟨ret_bool (by rw [HN.out]), HB3.out.trans ((Dr.below ⟨_, rfl⟩).mono (by have := HB3.out.size; omega))⟩
            · go_simp
              obtain ⟨wy, hwy⟩ : ∃ wy : World, wy = ((wo.alloc (.cells #[.int .i64 0, .int .i64 0, .int .i64 0, .int .i64 0, .int .i64 0] 62)).drew) := ⟨_, rfl⟩
              have HZy : Hid (Z5 wy wo.heap.size) := by rw [hwy]; exact Z5.new wo
              have rby : Below wo.heap.size wo wy := by rw [hwy]; exact ((Below.refl _ _).alloc (Nat.le_refl _) _).drew
              have HBy : Hid (Below w.heap.size w wy) := HB.out.trans (rby.mono HB.out.size)
              have HRy : Hid (Below wo.heap.size wo wy) := rby
              have hSy : wy.cell? ⟨w.heap.size, 0, none⟩ = some (.slice a t.net.stops.length c) ∧ wy.cell? ⟨w.heap.size, 1, none⟩ = some (.slice a' t.net.lines.length c') ∧ wy.cell? ⟨w.heap.size, 2, none⟩ = some (.slice b t.trips.length d) ∧ wy.cell? ⟨g, go + k * 5, none⟩ = some (.int .i64 x.trip) ∧ wy.cell? ⟨g, go + k * 5 + 1, none⟩ = some (.int .i64 x.frm) ∧ wy.cell? ⟨g, go + k * 5 + 2, none⟩ = some (.int .i64 x.dst) := ⟨bkeep rby p0, bkeep rby p1, bkeep rby p2, bkeep rby y0, bkeep rby y1, bkeep rby y2⟩
              rw [← hwy]
              clear hwy rby
              refine hK.out _ _ hSy (fun hH20 => ?_)
              clear hK K
              try simp only [Act.put, List.setIfInBounds_toArray, List.set_cons_zero, List.set_cons_succ]
              refine wpAnyH_ready (rs := [16]) (by kernel_rfl) (by simp) ?_
              refine AllReadyH.cons (by simp only [List.getElem?_toArray, List.getElem?_cons_succ, List.getElem?_cons_zero]; rfl) (fun K hK => ?_) AllReadyH.nil
              go_simp
              go_at_call 109
              refine (HFl.out _ (HBy.out)).mono ?_
              rintro e w2 ⟨rfl, hb⟩
              have rb : Below wy.heap.size wy w2 := hb
              have hS2 : w2.cell? ⟨w.heap.size, 0, none⟩ = some (.slice a t.net.stops.length c) ∧ w2.cell? ⟨w.heap.size, 1, none⟩ = some (.slice a' t.net.lines.length c') ∧ w2.cell? ⟨w.heap.size, 2, none⟩ = some (.slice b t.trips.length d) ∧ w2.cell? ⟨g, go + k * 5, none⟩ = some (.int .i64 x.trip) ∧ w2.cell? ⟨g, go + k * 5 + 1, none⟩ = some (.int .i64 x.frm) ∧ w2.cell? ⟨g, go + k * 5 + 2, none⟩ = some (.int .i64 x.dst) := ⟨bkeep rb hH20.1, bkeep rb hH20.2.1, bkeep rb hH20.2.2.1, bkeep rb hH20.2.2.2.1, bkeep rb hH20.2.2.2.2.1, bkeep rb hH20.2.2.2.2.2⟩
              have HB2 : Hid (Below w.heap.size w w2) := HBy.out.trans (rb.mono HBy.out.size)
              have HZ2 := Lib.hid (HZy.out.later rb)
              have HR2 : Hid (Below wo.heap.size wo w2) := HRy.out.trans (rb.mono HRy.out.size)
              clear hb rb
              go_wp2_with fail
              refine hK.out _ _ hS2 (fun hH16 => ?_)
              clear hK K
              try simp only [Act.put, List.setIfInBounds_toArray, List.set_cons_zero, List.set_cons_succ]
              refine wpAnyH_take (i := 17) (v := ?_) (by simp only [List.getElem?_toArray, List.getElem?_cons_succ, List.getElem?_cons_zero]; rfl) (by kernel_rfl) (by kernel_rfl) (by kernel_rfl) (by exact fun _ _ _ h => h) (Or.inl ⟨by rfl, ?_⟩) (by assumption) ?_
              rotate_left
              · intro w' hSw; obtain ⟨e0, e1, e2, e3, e4, e5⟩ := hSw
                go_simp; try with_reducible rfl
              try simp only [Act.put, List.setIfInBounds_toArray, List.set_cons_zero, List.set_cons_succ]
              refine wpAnyH_take (i := 18) (v := ?_) (by simp only [List.getElem?_toArray, List.getElem?_cons_succ, List.getElem?_cons_zero]; rfl) (by kernel_rfl) (by kernel_rfl) (by kernel_rfl) (by exact fun _ _ _ h => h) (Or.inl ⟨by rfl, ?_⟩) (by assumption) ?_
              rotate_left
              · intro w' hSw; obtain ⟨e0, e1, e2, e3, e4, e5⟩ := hSw
                go_simp; try with_reducible rfl
              try simp only [Act.put, List.setIfInBounds_toArray, List.set_cons_zero, List.set_cons_succ]
              refine wpAnyH_take (i := 19) (v := ?_) (by simp only [List.getElem?_toArray, List.getElem?_cons_succ, List.getElem?_cons_zero]; rfl) (by kernel_rfl) (by kernel_rfl) (by kernel_rfl) (by exact fun _ _ _ h => h) (Or.inl ⟨by rfl, ?_⟩) (by assumption) ?_
              rotate_left
              · intro w' hSw; obtain ⟨e0, e1, e2, e3, e4, e5⟩ := hSw
                go_simp; try with_reducible rfl
              try simp only [Act.put, List.setIfInBounds_toArray, List.set_cons_zero, List.set_cons_succ]
              refine wpAnyH_ready (rs := [21]) (by kernel_rfl) (by simp) ?_
              refine AllReadyH.cons (by simp only [List.getElem?_toArray, List.getElem?_cons_succ, List.getElem?_cons_zero]; rfl) (fun K hK => ?_) AllReadyH.nil
              have HBz := HB2
              have HRz := HR2
              have hBB : wo.heap.size ≤ wo.heap.size ∧ w.heap.size < wo.heap.size := by have := HB.out.size; have := hz.out; omega
              have hgB : g < wo.heap.size := hgb
              obtain ⟨zz0, zz1, zz2, zz3, zz4, zl, zf⟩ := HZ2.out
              go_simp
              refine hK.out _ _ ⟨(set5_cell (by dsimp only; omega)).trans hH16.1, (set5_cell (by dsimp only; omega)).trans hH16.2.1, (set5_cell (by dsimp only; omega)).trans hH16.2.2.1, (set5_cell (by dsimp only; omega)).trans hH16.2.2.2.1, (set5_cell (by dsimp only; omega)).trans hH16.2.2.2.2.1, (set5_cell (by dsimp only; omega)).trans hH16.2.2.2.2.2⟩ (fun hH21 => ?_)
              obtain ⟨w3, hw3⟩ : ∃ w3 : World, w3 = (((((w2.setCell ⟨wo.heap.size, 0, none⟩ (.int .i64 y.trip)).setCell ⟨wo.heap.size, 1, none⟩ (.int .i64 y.frm)).setCell ⟨wo.heap.size, 2, none⟩ (.int .i64 y.dst)).setCell ⟨wo.heap.size, 3, none⟩ (.int .i64 y.dep)).setCell ⟨wo.heap.size, 4, none⟩ (.int .i64 y.arr)) := ⟨_, rfl⟩
              obtain ⟨B, hB⟩ : ∃ B : Nat, B = wo.heap.size := ⟨_, rfl⟩
              have b0 : w3.cell? ⟨B, 0, none⟩ = some (.int .i64 y.trip) := by rw [hw3, hB]; go_simp
              have b1 : w3.cell? ⟨B, 1, none⟩ = some (.int .i64 y.frm) := by rw [hw3, hB]; go_simp
              have b2 : w3.cell? ⟨B, 2, none⟩ = some (.int .i64 y.dst) := by rw [hw3, hB]; go_simp
              have b3 : w3.cell? ⟨B, 3, none⟩ = some (.int .i64 y.dep) := by rw [hw3, hB]; go_simp
              have b4 : w3.cell? ⟨B, 4, none⟩ = some (.int .i64 y.arr) := by rw [hw3, hB]; go_simp
              have HR3 : Hid (Below wo.heap.size wo w3) := by show Below _ _ _; rw [hw3]; exact set5_below HRz.out (by omega)
              have HB3 : Hid (Below w.heap.size w w3) := HB.out.trans (HR3.out.mono HB.out.size)
              rw [← hw3, ← hB]
              rw [← hw3] at hH21
              have hS3 := hH21
              obtain ⟨p0, p1, p2, -, -, -⟩ := hH21
              clear hw3 hB hBB zz0 zz1 zz2 zz3 zz4 zl zf HBz HRz
              clear hK K
              try simp only [Act.put, List.setIfInBounds_toArray, List.set_cons_zero, List.set_cons_succ]
              refine wpAnyH_take (i := 22) (v := ?_) (by simp only [List.getElem?_toArray, List.getElem?_cons_succ, List.getElem?_cons_zero]; rfl) (by kernel_rfl) (by kernel_rfl) (by kernel_rfl) (by exact fun _ _ _ h => h) (Or.inl ⟨by rfl, ?_⟩) (by assumption) ?_
              rotate_left
              · intro w' hSw; obtain ⟨e0, e1, e2, e3, e4, e5⟩ := hSw
                go_simp; try with_reducible rfl
              try simp only [Act.put, List.setIfInBounds_toArray, List.set_cons_zero, List.set_cons_succ]
              refine wpAnyH_done (by kernel_rfl) ?_ _
              clear hS3
              have hE := neqLeg y x
              have hGd := guardLeg
              rw [hyx] at hE
              have HLr := Lib.hid (leg_at (HL.out.below rfl HB3.out) k hlt)
              obtain ⟨g', go', hg', -, v0, v1, v2, v3, v4⟩ := HLr.out
              simp at hg'
              obtain ⟨rfl, rfl⟩ := hg'
              clear HLr
              simp only [hx] at v0 v1 v2 v3 v4
              go_wp2_with fail
              go_quiet (fail)
              go_wp2_with fail
              go_ret
              exact ⟨ret_bool (by rw [HN.out]), HB3.out.trans ((Dr.below ⟨_, rfl⟩).mono (by have := HB3.out.size; omega))⟩

      · have hk1 : ¬ (k : Int) < (cs.length : Int) := by omega
        have HN : Hid (jrnB (allLegs (rides t)) ch cs = true) := jrnB_yes ⟨by omega, by omega, fun j hj _ => HSt.out j hj (by omega)⟩
        go_wp2_with fail
        go_ret
        exact ⟨ret_bool (by rw [HN.out]), HB.out⟩
  · have HN := Lib.hid (jrn_len (L := allLegs (rides t)) (ch := ch) (c := cs) (by omega))
    go_enter Try.func64, Try.ntmps64
    go_wp2_with fail
    go_at_call 66
    refine (l1In_no _ _ _ _ hlen).mono ?_
    rintro e w1 ⟨rfl, rfl⟩
    go_wp2_with fail
    go_ret
    exact ⟨ret_bool (by rw [HN.out]), (Below.refl _ _).alloc (Nat.le_refl _) _⟩
end Go.Proofs.Ytmcpafflnccfaaa

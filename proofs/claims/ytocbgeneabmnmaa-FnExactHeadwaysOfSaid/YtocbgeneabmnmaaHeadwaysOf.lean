/-
  What spec.HeadwaysOf and impl.HeadwaysOf both return.
-/
import Derived.Test.YtocbgeneabmnmaaStartsOf
import Derived.Test.YtocbgeneabmnmaaMb
import Derived.Deep.AppendLies
namespace Go.Proofs.Ytocbgeneabmnmaa
open Go.RowKit
set_option linter.unusedVariables false

noncomputable def hwF (t : TTD) (line : Int) : List Int × Bool := if TTGood t ∧ (0 ≤ line ∧ line < (t.net.lines.length : Int)) then (difK (stS t line t.trips.length) ((stS t line t.trips.length).length - 1), true) else ([], false)

set_option maxRecDepth 100000 in
set_option maxHeartbeats 4000000 in
theorem specHeadwaysOf_any (v : Value) (t : TTD) (line : Int) (w : World) (hr : TTAt w v t) (hf : TTFits t) (hs : TTSmall t) :
    Calls Try.prog 50 #[v, .int .i64 line] w fun e w' => StAns w.heap.size (hwF t line).1 (hwF t line).2 e w' ∧ Below w.heap.size w w' := by
  have HG := Lib.hid (fun W (hW : Below w.heap.size w W) => l5Good_any v t W (hr.below rfl hW) hf)
  have HSt := Lib.hid (fun W (hW : Below w.heap.size w W) => l5Starts_any v t line W (hr.below rfl hW) hs)
  have hts := hs.2
  unfold TripsSmall at hts
  obtain ⟨a, c, a', c', b, d, rfl, hn, ht⟩ := tt_open hr
  have hnl := hs.1.2.1
  have HRow2 := Lib.hid (row_new (w.alloc (.cells #[.slice a t.net.stops.length c, .slice a' t.net.lines.length c', .slice b t.trips.length d] 30 (0, 0))) (w.heap.size + 1) (by simp))
  clear hr hf hs hn ht
  simp only [World.size_alloc] at HRow2
  obtain ⟨i0, hi0, hz0, hz1, hz2⟩ := info_parts infoInt
  by_cases hg : TTGood t
  · rw [ttB_yes hg] at HG
    have HGo := Lib.hid hg
    clear hg
    by_cases hln : 0 ≤ line ∧ line < (t.net.lines.length : Int)
    · rw [show hwF t line = (difK (stS t line t.trips.length) ((stS t line t.trips.length).length - 1), true) from if_pos ⟨HGo.out, hln⟩]
      simp only
      have HBd := Lib.hid (stS_mem HGo.out line t.trips.length (Nat.le_refl _))
      have hsl := stS_len t line t.trips.length (Nat.le_refl _)
      generalize stS t line t.trips.length = L at *
      have HIn := Lib.hid (fun W => l1In_yes line 0 ((t.net.lines.length : Int) - 1) W ⟨hln.1, by omega⟩)
      have hlw : IntKind.i64.wrap ((t.net.lines.length : Int) - 1) = (t.net.lines.length : Int) - 1 := IntWalk.i64_in _ (by omega)
      clear hln
      go_enter Try.func50, Try.ntmps50
      go_wp2_with fail
      go_at_call 60
      refine (HG.out _ (((Below.refl _ _).alloc (Nat.le_refl _) _).alloc (by simp) _)).mono ?_
      rintro e w1 ⟨rfl, hb1⟩
      have HB1 : Hid (Below w.heap.size w w1 ∧ w.heap.size < w1.heap.size) := ⟨(((Below.refl _ _).alloc (Nat.le_refl _) _).alloc (by simp) _).trans (hb1.mono (by simp; omega)), by have := hb1.size; simp at this; omega⟩
      have p0 : w1.cell? ⟨w.heap.size, 0, none⟩ = some (.slice a t.net.stops.length c) := bkeep hb1 (by go_simp)
      have p1 : w1.cell? ⟨w.heap.size, 1, none⟩ = some (.slice a' t.net.lines.length c') := bkeep hb1 (by go_simp)
      have p2 : w1.cell? ⟨w.heap.size, 2, none⟩ = some (.slice b t.trips.length d) := bkeep hb1 (by go_simp)
      have HO1 := Lib.hid (own_later HRow2.out hb1)
      clear hb1 HRow2
      go_wp2_with fail
      go_at_call 69
      refine (HIn.out _).mono ?_
      rintro e w1 ⟨rfl, rfl⟩
      go_wp2_with fail
      go_at_call 97
      refine (HSt.out _ HB1.out.1).mono ?_
      rintro e w2 ⟨⟨sv, rfl, hsv⟩, hb2⟩
      have HB2 : Hid (Below w.heap.size w w2 ∧ w.heap.size + 1 < w2.heap.size ∧ w.heap.size + 1 < w1.heap.size) := ⟨HB1.out.1.trans (hb2.mono HB1.out.1.size), by have := (HO1.out.lt (w.heap.size + 1) rfl).2; have := hb2.size; omega, (HO1.out.lt (w.heap.size + 1) rfl).2⟩
      have HO2 := Lib.hid (own_later HO1.out hb2)
      have HSv := Lib.hid hsv
      clear hb2 hsv p0 p1 p2 HB1 HO1
      obtain ⟨sa, sc, rfl⟩ := own_shape HSv.out
      have HGs := Lib.hid HSv.out.lt
      go_wp2_with fail
      go_loopw [6, 8] (fun o q wr => ∃ k : Nat, k ≤ L.length - 1 ∧ q = .int .i64 ((k : Int) + 1) ∧ Hid (wr.ownsRow (w.heap.size + 1) 3 1 o k (ints (difK L k)) ∧ ∀ g, o.ownBlock = some g → g < w1.heap.size ∨ w2.heap.size ≤ g) ∧ Hid (wr.ownsRow w1.heap.size 3 1 (.slice sa L.length sc) L.length (ints L)) ∧ Hid (Below w.heap.size w wr ∧ w2.heap.size ≤ wr.heap.size))
        (fun _ q _ => L.length + 1 - (RowKit.intOf q).toNat)
      case atStart => exact ⟨0, Nat.zero_le _, rfl, ⟨by have := HO2.out; simpa [difK] using this, fun g hg => by simp [Value.ownBlock] at hg; have := HB2.out.2.2; omega⟩, HSv.out, ⟨HB2.out.1, Nat.le_refl _⟩⟩
      case round =>
        obtain ⟨k, hk, rfl, HOwn, HSv, HB⟩ := hrel
        obtain ⟨oa, oc, rfl⟩ := own_shape HOwn.out.1
        by_cases hlt : k + 1 < L.length
        · have hrow := rowAt_own HSv.out
          obtain ⟨_, _, he, hsc, hsm, HC⟩ := ints_open hrow
          simp at he
          obtain ⟨rfl, rfl⟩ := he
          obtain ⟨g, go, rfl, hgb, y1⟩ := HC.out (k + 1) hlt
          obtain ⟨g', go', he, hgb', y0⟩ := HC.out k (by omega)
          simp at he
          obtain ⟨rfl, rfl⟩ := he
          have HSucc := Lib.hid (difK_succ L k hlt)
          have hx := HBd.out _ (List.getElem_mem hlt)
          have hy := HBd.out _ (List.getElem_mem (show k < L.length by omega))
          generalize L[k + 1]'hlt = x at *
          generalize L[k]'(show k < L.length by omega) = y at *
          have hw1 : IntKind.i64.wrap (x - y) = x - y := IntWalk.i64_in _ (by omega)
          have hw2 : IntKind.i64.wrap ((k : Int) + 1 - 1) = (k : Int) := by rw [IntWalk.i64_in _ ⟨by omega, by omega⟩]; omega
          have hw3 : IntKind.i64.wrap (k : Int) = (k : Int) := IntWalk.i64_in _ ⟨by omega, by omega⟩
          have hk1 : (k : Int) + 1 < (L.length : Int) := by omega
          have hk2 : (k : Int) < (L.length : Int) := by omega
          have hk0 : (0 : Int) ≤ (k : Int) := by omega
          have hk00 : (0 : Int) ≤ (k : Int) + 1 := by omega
          have y1' : wr.cell? ⟨g, go + k + 1, none⟩ = some (.int .i64 x) := by rw [Nat.add_assoc]; exact y1
          have HN : Hid (wr.cell? ⟨g, go + (k + 1), none⟩ = some (.int .i64 x) ∧ wr.cell? ⟨g, go + k, none⟩ = some (.int .i64 y)) := ⟨y1, y0⟩
          clear hrow
          go_wp2_with fail
          refine wp_region_held_drew (S := fun w' => w'.cell? ⟨g, go + (k + 1), none⟩ = some (.int .i64 x) ∧ w'.cell? ⟨g, go + k, none⟩ = some (.int .i64 y) ∧ wr.heap.size ≤ w'.heap.size) (by kernel_rfl) ?_ (fun hHeld => ?_)
          · exact ⟨HN.out.1, HN.out.2, Nat.le_refl _⟩
          refine wpAnyH_take (i := 0) (v := ?_) (by simp only [List.getElem?_toArray, List.getElem?_cons_zero]; rfl) (by kernel_rfl) (by kernel_rfl) (by kernel_rfl) (by exact fun _ _ _ h => h) (Or.inl ⟨by rfl, ?_⟩) (by assumption) ?_
          rotate_left
          · intro w' hSw; (try dsimp only at hSw); obtain ⟨e0, e1, _⟩ := hSw; have e2 : w'.cell? ⟨g, go + k + 1, none⟩ = some (.int .i64 x) := by rw [Nat.add_assoc]; exact e0
            go_simp; try with_reducible rfl
          try simp only [Act.put, List.setIfInBounds_toArray, List.set_cons_zero, List.set_cons_succ]
          refine wpAnyH_take (i := 1) (v := ?_) (by simp only [List.getElem?_toArray, List.getElem?_cons_succ, List.getElem?_cons_zero]; rfl) (by kernel_rfl) (by kernel_rfl) (by kernel_rfl) (by exact fun _ _ _ h => h) (Or.inl ⟨by rfl, ?_⟩) (by assumption) ?_
          rotate_left
          · intro w' hSw; (try dsimp only at hSw); obtain ⟨e0, e1, _⟩ := hSw; have e2 : w'.cell? ⟨g, go + k + 1, none⟩ = some (.int .i64 x) := by rw [Nat.add_assoc]; exact e0
            go_simp; try with_reducible rfl
          try simp only [Act.put, List.setIfInBounds_toArray, List.set_cons_zero, List.set_cons_succ]
          refine wpAnyH_take (i := 2) (v := ?_) (by simp only [List.getElem?_toArray, List.getElem?_cons_succ, List.getElem?_cons_zero]; rfl) (by kernel_rfl) (by kernel_rfl) (by kernel_rfl) (by exact fun _ _ _ h => h) (Or.inl ⟨by rfl, ?_⟩) (by assumption) ?_
          rotate_left
          · intro w' hSw; (try dsimp only at hSw); obtain ⟨e0, e1, _⟩ := hSw; have e2 : w'.cell? ⟨g, go + k + 1, none⟩ = some (.int .i64 x) := by rw [Nat.add_assoc]; exact e0
            go_simp; try with_reducible rfl
          try simp only [Act.put, List.setIfInBounds_toArray, List.set_cons_zero, List.set_cons_succ]
          refine wpAnyH_take (i := 3) (v := ?_) (by simp only [List.getElem?_toArray, List.getElem?_cons_succ, List.getElem?_cons_zero]; rfl) (by kernel_rfl) (by kernel_rfl) (by kernel_rfl) (by exact fun _ _ _ h => h) (Or.inl ⟨by rfl, ?_⟩) (by assumption) ?_
          rotate_left
          · intro w' hSw; (try dsimp only at hSw); obtain ⟨e0, e1, _⟩ := hSw; have e2 : w'.cell? ⟨g, go + k + 1, none⟩ = some (.int .i64 x) := by rw [Nat.add_assoc]; exact e0
            go_simp; try with_reducible rfl
          try simp only [Act.put, List.setIfInBounds_toArray, List.set_cons_zero, List.set_cons_succ]
          refine wpAnyH_take (i := 4) (v := ?_) (by simp only [List.getElem?_toArray, List.getElem?_cons_succ, List.getElem?_cons_zero]; rfl) (by kernel_rfl) (by kernel_rfl) (by kernel_rfl) (by exact fun _ _ _ h => h) (Or.inl ⟨by rfl, ?_⟩) (by assumption) ?_
          rotate_left
          · intro w' hSw; (try dsimp only at hSw); obtain ⟨e0, e1, _⟩ := hSw; have e2 : w'.cell? ⟨g, go + k + 1, none⟩ = some (.int .i64 x) := by rw [Nat.add_assoc]; exact e0
            go_simp; try with_reducible rfl
          try simp only [Act.put, List.setIfInBounds_toArray, List.set_cons_zero, List.set_cons_succ]
          refine wpAnyH_take (i := 5) (v := ?_) (by simp only [List.getElem?_toArray, List.getElem?_cons_succ, List.getElem?_cons_zero]; rfl) (by kernel_rfl) (by kernel_rfl) (by kernel_rfl) (by exact fun _ _ _ h => h) (Or.inl ⟨by rfl, ?_⟩) (by assumption) ?_
          rotate_left
          · intro w' hSw; (try dsimp only at hSw); obtain ⟨e0, e1, _⟩ := hSw; have e2 : w'.cell? ⟨g, go + k + 1, none⟩ = some (.int .i64 x) := by rw [Nat.add_assoc]; exact e0
            go_simp; try with_reducible rfl
          try simp only [Act.put, List.setIfInBounds_toArray, List.set_cons_zero, List.set_cons_succ]
          refine wpAnyH_take (i := 6) (v := ?_) (by simp only [List.getElem?_toArray, List.getElem?_cons_succ, List.getElem?_cons_zero]; rfl) (by kernel_rfl) (by kernel_rfl) (by kernel_rfl) (by exact fun _ _ _ h => h) (Or.inl ⟨by rfl, ?_⟩) (by assumption) ?_
          rotate_left
          · intro w' hSw; (try dsimp only at hSw); obtain ⟨e0, e1, _⟩ := hSw; have e2 : w'.cell? ⟨g, go + k + 1, none⟩ = some (.int .i64 x) := by rw [Nat.add_assoc]; exact e0
            go_simp; try with_reducible rfl
          try simp only [Act.put, List.setIfInBounds_toArray, List.set_cons_zero, List.set_cons_succ]
          refine wpAnyH_take (i := 7) (v := ?_) (by simp only [List.getElem?_toArray, List.getElem?_cons_succ, List.getElem?_cons_zero]; rfl) (by kernel_rfl) (by kernel_rfl) (by kernel_rfl) (by exact fun _ _ _ h => h) (Or.inl ⟨by rfl, ?_⟩) (by assumption) ?_
          rotate_left
          · intro w' hSw; (try dsimp only at hSw); obtain ⟨e0, e1, _⟩ := hSw; have e2 : w'.cell? ⟨g, go + k + 1, none⟩ = some (.int .i64 x) := by rw [Nat.add_assoc]; exact e0
            go_simp; try with_reducible rfl
          try simp only [Act.put, List.setIfInBounds_toArray, List.set_cons_zero, List.set_cons_succ]
          refine wpAnyH_take (i := 8) (v := ?_) (by simp only [List.getElem?_toArray, List.getElem?_cons_succ, List.getElem?_cons_zero]; rfl) (by kernel_rfl) (by kernel_rfl) (by kernel_rfl) (by exact fun _ _ _ h => h) (Or.inl ⟨by rfl, ?_⟩) (by assumption) ?_
          rotate_left
          · intro w' hSw; (try dsimp only at hSw); obtain ⟨e0, e1, _⟩ := hSw; have e2 : w'.cell? ⟨g, go + k + 1, none⟩ = some (.int .i64 x) := by rw [Nat.add_assoc]; exact e0
            go_simp; try with_reducible rfl
          try simp only [Act.put, List.setIfInBounds_toArray, List.set_cons_zero, List.set_cons_succ]
          refine wpAnyH_take (i := 9) (v := ?_) (by simp only [List.getElem?_toArray, List.getElem?_cons_succ, List.getElem?_cons_zero]; rfl) (by kernel_rfl) (by kernel_rfl) (by kernel_rfl) (by exact fun _ _ _ h => h) (Or.inl ⟨by rfl, ?_⟩) (by assumption) ?_
          rotate_left
          · intro w' hSw; (try dsimp only at hSw); obtain ⟨e0, e1, _⟩ := hSw; have e2 : w'.cell? ⟨g, go + k + 1, none⟩ = some (.int .i64 x) := by rw [Nat.add_assoc]; exact e0
            go_simp; try with_reducible rfl
          try simp only [Act.put, List.setIfInBounds_toArray, List.set_cons_zero, List.set_cons_succ]
          refine wpAnyH_take (i := 10) (v := ?_) (by simp only [List.getElem?_toArray, List.getElem?_cons_succ, List.getElem?_cons_zero]; rfl) (by kernel_rfl) (by kernel_rfl) (by kernel_rfl) (by exact fun _ _ _ h => h) (Or.inl ⟨by rfl, ?_⟩) (by assumption) ?_
          rotate_left
          · intro w' hSw; (try dsimp only at hSw); obtain ⟨e0, e1, _⟩ := hSw; have e2 : w'.cell? ⟨g, go + k + 1, none⟩ = some (.int .i64 x) := by rw [Nat.add_assoc]; exact e0
            go_simp; try with_reducible rfl
          try simp only [Act.put, List.setIfInBounds_toArray, List.set_cons_zero, List.set_cons_succ]
          refine wpAnyH_ready (rs := [11]) (by kernel_rfl) (by simp) ?_
          refine AllReadyH.cons (by simp only [List.getElem?_toArray, List.getElem?_cons_succ, List.getElem?_cons_zero]; rfl) (fun K hK => ?_) AllReadyH.nil
          go_simp
          refine hK.out _ _ ?_ (fun hH1 => ?_)
          · exact ⟨acell hHeld.1 _, acell hHeld.2.1 _, by simp <;> omega⟩
          clear hK K
          try simp only [Act.put, List.setIfInBounds_toArray, List.set_cons_zero, List.set_cons_succ]
          have hgb2 := HGs.out g rfl
          have hne : (Value.slice oa k oc).ownBlock ≠ some g := fun e => by have := HOwn.out.2 g e; omega
          refine wpAnyH_ready (rs := [12]) (by kernel_rfl) (by simp) ?_
          refine AllReadyH.cons (by simp only [List.getElem?_toArray, List.getElem?_cons_succ, List.getElem?_cons_zero]; rfl) (fun K hK => ?_) AllReadyH.nil
          rw [if_pos (by rfl)]
          refine wp_append_lies _ _ _ 40 rfl (w.heap.size + 1) 3 i0 (.int .i64 0) 1 8 Try.underlying40 hi0 hz0 hz1 hz2 rfl (by decide) _ _ _ rfl (HOwn.out.1.alloc _) ⟨wr.heap.size, 0, none⟩ 1 1 [.int .i64 (x - y)] rfl rfl (one_newN _ _ _ rfl) (by intro u hu; simp at hu; subst hu; rfl) (by omega) (by unfold maxLen; omega) (by omega) (by have := HB.out.1.size; have := HB.out.2; have := HB2.out.2.1; simp; omega) _ rfl ?_
          intro g3 c3 w3 hown3 hg3 hat3 hlt3
          have hg3' : (wr.alloc (.cells #[.int .i64 (x - y)] 3)).drew.grownBy w3 (Value.slice oa k oc).ownBlock := hg3
          have hsv' : (wr.alloc (.cells #[.int .i64 (x - y)] 3)).drew.ownsRow w1.heap.size 3 1 (.slice (some ⟨g, go, none⟩) L.length sc) L.length (ints L) := HSv.out.alloc _
          have HSv3 := Lib.hid (hsv'.kept hg3' (.inr (fun e => hne e.symm)))
          clear hg3 hsv'
          have hg3 := hg3'
          clear hg3'
          refine hK.out _ _ ?_ (fun hH2 => ?_)
          · exact ⟨hg3.cell (acell HN.out.1 _) (fun e => hne e.symm), hg3.cell (acell HN.out.2 _) (fun e => hne e.symm), by have := hg3.size; simp at this; omega⟩
          clear hK K
          try simp only [Act.put, List.setIfInBounds_toArray, List.set_cons_zero, List.set_cons_succ]
          refine wpAnyH_take (i := 13) (v := ?_) (by simp only [List.getElem?_toArray, List.getElem?_cons_succ, List.getElem?_cons_zero]; rfl) (by kernel_rfl) (by kernel_rfl) (by kernel_rfl) (by exact fun _ _ _ h => h) (Or.inl ⟨by rfl, ?_⟩) (by assumption) ?_
          rotate_left
          · intro w' hSw; (try dsimp only at hSw); go_simp; try with_reducible rfl
          try simp only [Act.put, List.setIfInBounds_toArray, List.set_cons_zero, List.set_cons_succ]
          refine wpAnyH_done (by kernel_rfl) ?_ _
          have HB3 : Hid (Below w.heap.size w w3 ∧ w2.heap.size ≤ w3.heap.size) := ⟨((HB.out.1.alloc HB.out.1.size _).drew).grown hg3 (by have h1 := HB.out.1.size; show w.heap.size ≤ (wr.alloc _).heap.size; simp; omega) (fun g hg => by have := (HOwn.out.1.lt g hg).1; omega), by have h1 : (wr.alloc (.cells #[.int .i64 (x - y)] 3)).heap.size ≤ w3.heap.size := hg3.size; have h2 := HB.out.2; simp at h1; omega⟩
          have HR : Hid (w3.ownsRow (w.heap.size + 1) 3 1 (.slice (some ⟨g3, 0, none⟩) (k + 1) c3) (k + 1) (ints (difK L (k + 1))) ∧ ∀ g', (Value.slice (some ⟨g3, 0, none⟩) (k + 1) c3).ownBlock = some g' → g' < w1.heap.size ∨ w2.heap.size ≤ g') := by
            refine ⟨by rw [HSucc.out]; simpa [ints] using hown3, fun g' hg' => ?_⟩
            simp [Value.ownBlock] at hg'
            subst hg'
            rcases hat3 with h | h
            · exact HOwn.out.2 _ h
            · right; rw [h]; have := HB.out.2; simp [World.drew]; omega
          clear hown3 hg3 hat3 hlt3
          go_wp2_with fail
          go_roundw
          case rel => exact ⟨k + 1, by omega, by go_num, HR, HSv3.out, HB3⟩
          case measure => simp [RowKit.intOf]; omega
        · have hlt1 : ¬ (k : Int) + 1 < (L.length : Int) := by omega
          obtain rfl : k = L.length - 1 := by omega
          have hle : w.heap.size ≤ w.heap.size + 1 := by omega
          have hX := HOwn.out.1
          have HX := Lib.hid (own_base hX hle)
          clear hX
          go_wp2_with fail
          go_ret2
          exact ⟨⟨.slice oa (L.length - 1) oc, rfl, by rw [difK_len]; exact HX.out⟩, HB.out.1⟩
    · rw [show hwF t line = ([], false) from if_neg fun h => hln h.2]
      have HIn := Lib.hid (fun W => l1In_no line 0 ((t.net.lines.length : Int) - 1) W (fun h => hln ⟨h.1, by omega⟩))
      have hlw : IntKind.i64.wrap ((t.net.lines.length : Int) - 1) = (t.net.lines.length : Int) - 1 := IntWalk.i64_in _ (by omega)
      clear hln
      go_enter Try.func50, Try.ntmps50
      go_wp2_with fail
      go_at_call 60
      refine (HG.out _ (((Below.refl _ _).alloc (Nat.le_refl _) _).alloc (by simp) _)).mono ?_
      rintro e w1 ⟨rfl, hb1⟩
      have HB1 : Hid (Below w.heap.size w w1 ∧ w.heap.size < w1.heap.size) := ⟨(((Below.refl _ _).alloc (Nat.le_refl _) _).alloc (by simp) _).trans (hb1.mono (by simp; omega)), by have := hb1.size; simp at this; omega⟩
      have p0 : w1.cell? ⟨w.heap.size, 0, none⟩ = some (.slice a t.net.stops.length c) := bkeep hb1 (by go_simp)
      have p1 : w1.cell? ⟨w.heap.size, 1, none⟩ = some (.slice a' t.net.lines.length c') := bkeep hb1 (by go_simp)
      have p2 : w1.cell? ⟨w.heap.size, 2, none⟩ = some (.slice b t.trips.length d) := bkeep hb1 (by go_simp)
      have HO1 := Lib.hid (own_later HRow2.out hb1)
      clear hb1 HRow2
      go_wp2_with (go_at_call 69; refine (HIn.out _).mono ?_; rintro e w2 ⟨rfl, rfl⟩)
      go_ret2
      exact ⟨⟨_, rfl, own_base HO1.out (show w.heap.size ≤ w.heap.size + 1 by omega)⟩, HB1.out.1⟩
  · rw [ttB_no hg] at HG
    rw [show hwF t line = ([], false) from if_neg fun h => hg h.1]
    clear hg
    go_enter Try.func50, Try.ntmps50
    go_wp2_with fail
    go_at_call 60
    refine (HG.out _ (((Below.refl _ _).alloc (Nat.le_refl _) _).alloc (by simp) _)).mono ?_
    rintro e w1 ⟨rfl, hb1⟩
    have HB1 : Hid (Below w.heap.size w w1 ∧ w.heap.size < w1.heap.size) := ⟨(((Below.refl _ _).alloc (Nat.le_refl _) _).alloc (by simp) _).trans (hb1.mono (by simp; omega)), by have := hb1.size; simp at this; omega⟩
    have p0 : w1.cell? ⟨w.heap.size, 0, none⟩ = some (.slice a t.net.stops.length c) := bkeep hb1 (by go_simp)
    have p1 : w1.cell? ⟨w.heap.size, 1, none⟩ = some (.slice a' t.net.lines.length c') := bkeep hb1 (by go_simp)
    have p2 : w1.cell? ⟨w.heap.size, 2, none⟩ = some (.slice b t.trips.length d) := bkeep hb1 (by go_simp)
    have HO1 := Lib.hid (own_later HRow2.out hb1)
    clear hb1 HRow2
    go_wp2_with fail
    go_ret2
    exact ⟨⟨_, rfl, own_base HO1.out (show w.heap.size ≤ w.heap.size + 1 by omega)⟩, HB1.out.1⟩
set_option maxRecDepth 100000 in
set_option maxHeartbeats 4000000 in
theorem implHeadwaysOf_any (v : Value) (t : TTD) (line : Int) (w : World) (hr : TTAt w v t) (hf : TTFits t) (hs : TTSmall t) :
    Calls Try.prog 51 #[v, .int .i64 line] w fun e w' => StAns w.heap.size (hwF t line).1 (hwF t line).2 e w' ∧ Below w.heap.size w w' := by
  have HG := Lib.hid (fun W (hW : Below w.heap.size w W) => implTT_any v t W (hr.below rfl hW) hf)
  have HSt := Lib.hid (fun W (hW : Below w.heap.size w W) => startsOf_any v t line W (hr.below rfl hW) hs)
  have hts := hs.2
  unfold TripsSmall at hts
  obtain ⟨a, c, a', c', b, d, rfl, hn, ht⟩ := tt_open hr
  have HIs := Lib.hid (fun W (hW : Below w.heap.size w W) => isLineOf_any _ t.net line W (hn.below rfl hW) hf.1)
  have HRow2 := Lib.hid (row_new (w.alloc (.cells #[.slice a t.net.stops.length c, .slice a' t.net.lines.length c', .slice b t.trips.length d] 30 (0, 0))) (w.heap.size + 1) (by simp))
  clear hr hf hs hn ht
  simp only [World.size_alloc] at HRow2
  obtain ⟨i0, hi0, hz0, hz1, hz2⟩ := info_parts infoInt
  by_cases hg : TTGood t
  · rw [ttB_yes hg] at HG
    have HGo := Lib.hid hg
    clear hg
    by_cases hln : 0 ≤ line ∧ line < (t.net.lines.length : Int)
    · rw [show hwF t line = (difK (stS t line t.trips.length) ((stS t line t.trips.length).length - 1), true) from if_pos ⟨HGo.out, hln⟩]
      simp only
      have HBd := Lib.hid (stS_mem HGo.out line t.trips.length (Nat.le_refl _))
      have hsl := stS_len t line t.trips.length (Nat.le_refl _)
      generalize stS t line t.trips.length = L at *
      have HLn := Lib.hid hln
      clear hln
      go_enter Try.func51, Try.ntmps51
      go_wp2_with fail
      go_at_call 19
      refine (HG.out _ (((Below.refl _ _).alloc (Nat.le_refl _) _).alloc (by simp) _)).mono ?_
      rintro e w1 ⟨rfl, hb1⟩
      have HB1 : Hid (Below w.heap.size w w1 ∧ w.heap.size < w1.heap.size) := ⟨(((Below.refl _ _).alloc (Nat.le_refl _) _).alloc (by simp) _).trans (hb1.mono (by simp; omega)), by have := hb1.size; simp at this; omega⟩
      have p0 : w1.cell? ⟨w.heap.size, 0, none⟩ = some (.slice a t.net.stops.length c) := bkeep hb1 (by go_simp)
      have p1 : w1.cell? ⟨w.heap.size, 1, none⟩ = some (.slice a' t.net.lines.length c') := bkeep hb1 (by go_simp)
      have p2 : w1.cell? ⟨w.heap.size, 2, none⟩ = some (.slice b t.trips.length d) := bkeep hb1 (by go_simp)
      have HO1 := Lib.hid (own_later HRow2.out hb1)
      clear hb1 HRow2
      go_wp2_with fail
      go_at_call 98
      refine (HIs.out _ HB1.out.1).mono ?_
      rintro e w2 ⟨he, hb2⟩
      rcases he with ⟨_, rfl⟩ | ⟨hno, rfl⟩
      rotate_left
      · exact absurd ⟨HGo.out.1, HLn.out⟩ hno
      have HB2 : Hid (Below w.heap.size w w2 ∧ w.heap.size < w2.heap.size) := ⟨HB1.out.1.trans (hb2.mono HB1.out.1.size), by have := HB1.out.2; have := hb2.size; omega⟩
      have q0 := bkeep hb2 p0
      have q1 := bkeep hb2 p1
      have q2 := bkeep hb2 p2
      have HO2 := Lib.hid (own_later HO1.out hb2)
      clear hb2 p0 p1 p2 HB1 HO1
      obtain ⟨p0, p1, p2, HB1, HO1, w1, rfl⟩ : ∃ (_ : w2.cell? ⟨w.heap.size, 0, none⟩ = some (.slice a t.net.stops.length c)) (_ : w2.cell? ⟨w.heap.size, 1, none⟩ = some (.slice a' t.net.lines.length c')) (_ : w2.cell? ⟨w.heap.size, 2, none⟩ = some (.slice b t.trips.length d)) (_ : Hid (Below w.heap.size w w2 ∧ w.heap.size < w2.heap.size)) (_ : Hid (w2.ownsRow (w.heap.size + 1) 3 1 (.slice (some ⟨w.heap.size + 1, 0, none⟩) 0 0) 0 (ints []))) (z : World), z = w2 := ⟨q0, q1, q2, HB2, HO2, w2, rfl⟩
      clear q0 q1 q2 HB2 HO2
      go_wp2_with fail
      go_at_call 99
      refine (HSt.out _ HB1.out.1).mono ?_
      rintro e w2 ⟨⟨sv, rfl, hsv⟩, hb2⟩
      have HB2 : Hid (Below w.heap.size w w2 ∧ w.heap.size + 1 < w2.heap.size ∧ w.heap.size + 1 < w1.heap.size) := ⟨HB1.out.1.trans (hb2.mono HB1.out.1.size), by have := (HO1.out.lt (w.heap.size + 1) rfl).2; have := hb2.size; omega, (HO1.out.lt (w.heap.size + 1) rfl).2⟩
      have HO2 := Lib.hid (own_later HO1.out hb2)
      have HSv := Lib.hid hsv
      clear hb2 hsv p0 p1 p2 HB1 HO1
      obtain ⟨sa, sc, rfl⟩ := own_shape HSv.out
      have HGs := Lib.hid HSv.out.lt
      go_wp2_with fail
      go_loopw [6, 8] (fun o q wr => ∃ k : Nat, k ≤ L.length - 1 ∧ q = .int .i64 ((k : Int) + 1) ∧ Hid (wr.ownsRow (w.heap.size + 1) 3 1 o k (ints (difK L k)) ∧ ∀ g, o.ownBlock = some g → g < w1.heap.size ∨ w2.heap.size ≤ g) ∧ Hid (wr.ownsRow w1.heap.size 3 1 (.slice sa L.length sc) L.length (ints L)) ∧ Hid (Below w.heap.size w wr ∧ w2.heap.size ≤ wr.heap.size))
        (fun _ q _ => L.length + 1 - (RowKit.intOf q).toNat)
      case atStart => exact ⟨0, Nat.zero_le _, rfl, ⟨by have := HO2.out; simpa [difK] using this, fun g hg => by simp [Value.ownBlock] at hg; have := HB2.out.2.2; omega⟩, HSv.out, ⟨HB2.out.1, Nat.le_refl _⟩⟩
      case round =>
        obtain ⟨k, hk, rfl, HOwn, HSv, HB⟩ := hrel
        obtain ⟨oa, oc, rfl⟩ := own_shape HOwn.out.1
        by_cases hlt : k + 1 < L.length
        · have hrow := rowAt_own HSv.out
          obtain ⟨_, _, he, hsc, hsm, HC⟩ := ints_open hrow
          simp at he
          obtain ⟨rfl, rfl⟩ := he
          obtain ⟨g, go, rfl, hgb, y1⟩ := HC.out (k + 1) hlt
          obtain ⟨g', go', he, hgb', y0⟩ := HC.out k (by omega)
          simp at he
          obtain ⟨rfl, rfl⟩ := he
          have HSucc := Lib.hid (difK_succ L k hlt)
          have hx := HBd.out _ (List.getElem_mem hlt)
          have hy := HBd.out _ (List.getElem_mem (show k < L.length by omega))
          generalize L[k + 1]'hlt = x at *
          generalize L[k]'(show k < L.length by omega) = y at *
          have hw1 : IntKind.i64.wrap (x - y) = x - y := IntWalk.i64_in _ (by omega)
          have hw2 : IntKind.i64.wrap ((k : Int) + 1 - 1) = (k : Int) := by rw [IntWalk.i64_in _ ⟨by omega, by omega⟩]; omega
          have hw3 : IntKind.i64.wrap (k : Int) = (k : Int) := IntWalk.i64_in _ ⟨by omega, by omega⟩
          have hk1 : (k : Int) + 1 < (L.length : Int) := by omega
          have hk2 : (k : Int) < (L.length : Int) := by omega
          have hk0 : (0 : Int) ≤ (k : Int) := by omega
          have hk00 : (0 : Int) ≤ (k : Int) + 1 := by omega
          have y1' : wr.cell? ⟨g, go + k + 1, none⟩ = some (.int .i64 x) := by rw [Nat.add_assoc]; exact y1
          have HN : Hid (wr.cell? ⟨g, go + (k + 1), none⟩ = some (.int .i64 x) ∧ wr.cell? ⟨g, go + k, none⟩ = some (.int .i64 y)) := ⟨y1, y0⟩
          clear hrow
          go_wp2_with fail
          refine wp_region_held_drew (S := fun w' => w'.cell? ⟨g, go + (k + 1), none⟩ = some (.int .i64 x) ∧ w'.cell? ⟨g, go + k, none⟩ = some (.int .i64 y) ∧ wr.heap.size ≤ w'.heap.size) (by kernel_rfl) ?_ (fun hHeld => ?_)
          · exact ⟨HN.out.1, HN.out.2, Nat.le_refl _⟩
          refine wpAnyH_take (i := 0) (v := ?_) (by simp only [List.getElem?_toArray, List.getElem?_cons_zero]; rfl) (by kernel_rfl) (by kernel_rfl) (by kernel_rfl) (by exact fun _ _ _ h => h) (Or.inl ⟨by rfl, ?_⟩) (by assumption) ?_
          rotate_left
          · intro w' hSw; (try dsimp only at hSw); obtain ⟨e0, e1, _⟩ := hSw; have e2 : w'.cell? ⟨g, go + k + 1, none⟩ = some (.int .i64 x) := by rw [Nat.add_assoc]; exact e0
            go_simp; try with_reducible rfl
          try simp only [Act.put, List.setIfInBounds_toArray, List.set_cons_zero, List.set_cons_succ]
          refine wpAnyH_take (i := 1) (v := ?_) (by simp only [List.getElem?_toArray, List.getElem?_cons_succ, List.getElem?_cons_zero]; rfl) (by kernel_rfl) (by kernel_rfl) (by kernel_rfl) (by exact fun _ _ _ h => h) (Or.inl ⟨by rfl, ?_⟩) (by assumption) ?_
          rotate_left
          · intro w' hSw; (try dsimp only at hSw); obtain ⟨e0, e1, _⟩ := hSw; have e2 : w'.cell? ⟨g, go + k + 1, none⟩ = some (.int .i64 x) := by rw [Nat.add_assoc]; exact e0
            go_simp; try with_reducible rfl
          try simp only [Act.put, List.setIfInBounds_toArray, List.set_cons_zero, List.set_cons_succ]
          refine wpAnyH_take (i := 2) (v := ?_) (by simp only [List.getElem?_toArray, List.getElem?_cons_succ, List.getElem?_cons_zero]; rfl) (by kernel_rfl) (by kernel_rfl) (by kernel_rfl) (by exact fun _ _ _ h => h) (Or.inl ⟨by rfl, ?_⟩) (by assumption) ?_
          rotate_left
          · intro w' hSw; (try dsimp only at hSw); obtain ⟨e0, e1, _⟩ := hSw; have e2 : w'.cell? ⟨g, go + k + 1, none⟩ = some (.int .i64 x) := by rw [Nat.add_assoc]; exact e0
            go_simp; try with_reducible rfl
          try simp only [Act.put, List.setIfInBounds_toArray, List.set_cons_zero, List.set_cons_succ]
          refine wpAnyH_take (i := 3) (v := ?_) (by simp only [List.getElem?_toArray, List.getElem?_cons_succ, List.getElem?_cons_zero]; rfl) (by kernel_rfl) (by kernel_rfl) (by kernel_rfl) (by exact fun _ _ _ h => h) (Or.inl ⟨by rfl, ?_⟩) (by assumption) ?_
          rotate_left
          · intro w' hSw; (try dsimp only at hSw); obtain ⟨e0, e1, _⟩ := hSw; have e2 : w'.cell? ⟨g, go + k + 1, none⟩ = some (.int .i64 x) := by rw [Nat.add_assoc]; exact e0
            go_simp; try with_reducible rfl
          try simp only [Act.put, List.setIfInBounds_toArray, List.set_cons_zero, List.set_cons_succ]
          refine wpAnyH_take (i := 4) (v := ?_) (by simp only [List.getElem?_toArray, List.getElem?_cons_succ, List.getElem?_cons_zero]; rfl) (by kernel_rfl) (by kernel_rfl) (by kernel_rfl) (by exact fun _ _ _ h => h) (Or.inl ⟨by rfl, ?_⟩) (by assumption) ?_
          rotate_left
          · intro w' hSw; (try dsimp only at hSw); obtain ⟨e0, e1, _⟩ := hSw; have e2 : w'.cell? ⟨g, go + k + 1, none⟩ = some (.int .i64 x) := by rw [Nat.add_assoc]; exact e0
            go_simp; try with_reducible rfl
          try simp only [Act.put, List.setIfInBounds_toArray, List.set_cons_zero, List.set_cons_succ]
          refine wpAnyH_take (i := 5) (v := ?_) (by simp only [List.getElem?_toArray, List.getElem?_cons_succ, List.getElem?_cons_zero]; rfl) (by kernel_rfl) (by kernel_rfl) (by kernel_rfl) (by exact fun _ _ _ h => h) (Or.inl ⟨by rfl, ?_⟩) (by assumption) ?_
          rotate_left
          · intro w' hSw; (try dsimp only at hSw); obtain ⟨e0, e1, _⟩ := hSw; have e2 : w'.cell? ⟨g, go + k + 1, none⟩ = some (.int .i64 x) := by rw [Nat.add_assoc]; exact e0
            go_simp; try with_reducible rfl
          try simp only [Act.put, List.setIfInBounds_toArray, List.set_cons_zero, List.set_cons_succ]
          refine wpAnyH_take (i := 6) (v := ?_) (by simp only [List.getElem?_toArray, List.getElem?_cons_succ, List.getElem?_cons_zero]; rfl) (by kernel_rfl) (by kernel_rfl) (by kernel_rfl) (by exact fun _ _ _ h => h) (Or.inl ⟨by rfl, ?_⟩) (by assumption) ?_
          rotate_left
          · intro w' hSw; (try dsimp only at hSw); obtain ⟨e0, e1, _⟩ := hSw; have e2 : w'.cell? ⟨g, go + k + 1, none⟩ = some (.int .i64 x) := by rw [Nat.add_assoc]; exact e0
            go_simp; try with_reducible rfl
          try simp only [Act.put, List.setIfInBounds_toArray, List.set_cons_zero, List.set_cons_succ]
          refine wpAnyH_take (i := 7) (v := ?_) (by simp only [List.getElem?_toArray, List.getElem?_cons_succ, List.getElem?_cons_zero]; rfl) (by kernel_rfl) (by kernel_rfl) (by kernel_rfl) (by exact fun _ _ _ h => h) (Or.inl ⟨by rfl, ?_⟩) (by assumption) ?_
          rotate_left
          · intro w' hSw; (try dsimp only at hSw); obtain ⟨e0, e1, _⟩ := hSw; have e2 : w'.cell? ⟨g, go + k + 1, none⟩ = some (.int .i64 x) := by rw [Nat.add_assoc]; exact e0
            go_simp; try with_reducible rfl
          try simp only [Act.put, List.setIfInBounds_toArray, List.set_cons_zero, List.set_cons_succ]
          refine wpAnyH_take (i := 8) (v := ?_) (by simp only [List.getElem?_toArray, List.getElem?_cons_succ, List.getElem?_cons_zero]; rfl) (by kernel_rfl) (by kernel_rfl) (by kernel_rfl) (by exact fun _ _ _ h => h) (Or.inl ⟨by rfl, ?_⟩) (by assumption) ?_
          rotate_left
          · intro w' hSw; (try dsimp only at hSw); obtain ⟨e0, e1, _⟩ := hSw; have e2 : w'.cell? ⟨g, go + k + 1, none⟩ = some (.int .i64 x) := by rw [Nat.add_assoc]; exact e0
            go_simp; try with_reducible rfl
          try simp only [Act.put, List.setIfInBounds_toArray, List.set_cons_zero, List.set_cons_succ]
          refine wpAnyH_take (i := 9) (v := ?_) (by simp only [List.getElem?_toArray, List.getElem?_cons_succ, List.getElem?_cons_zero]; rfl) (by kernel_rfl) (by kernel_rfl) (by kernel_rfl) (by exact fun _ _ _ h => h) (Or.inl ⟨by rfl, ?_⟩) (by assumption) ?_
          rotate_left
          · intro w' hSw; (try dsimp only at hSw); obtain ⟨e0, e1, _⟩ := hSw; have e2 : w'.cell? ⟨g, go + k + 1, none⟩ = some (.int .i64 x) := by rw [Nat.add_assoc]; exact e0
            go_simp; try with_reducible rfl
          try simp only [Act.put, List.setIfInBounds_toArray, List.set_cons_zero, List.set_cons_succ]
          refine wpAnyH_take (i := 10) (v := ?_) (by simp only [List.getElem?_toArray, List.getElem?_cons_succ, List.getElem?_cons_zero]; rfl) (by kernel_rfl) (by kernel_rfl) (by kernel_rfl) (by exact fun _ _ _ h => h) (Or.inl ⟨by rfl, ?_⟩) (by assumption) ?_
          rotate_left
          · intro w' hSw; (try dsimp only at hSw); obtain ⟨e0, e1, _⟩ := hSw; have e2 : w'.cell? ⟨g, go + k + 1, none⟩ = some (.int .i64 x) := by rw [Nat.add_assoc]; exact e0
            go_simp; try with_reducible rfl
          try simp only [Act.put, List.setIfInBounds_toArray, List.set_cons_zero, List.set_cons_succ]
          refine wpAnyH_ready (rs := [11]) (by kernel_rfl) (by simp) ?_
          refine AllReadyH.cons (by simp only [List.getElem?_toArray, List.getElem?_cons_succ, List.getElem?_cons_zero]; rfl) (fun K hK => ?_) AllReadyH.nil
          go_simp
          refine hK.out _ _ ?_ (fun hH1 => ?_)
          · exact ⟨acell hHeld.1 _, acell hHeld.2.1 _, by simp <;> omega⟩
          clear hK K
          try simp only [Act.put, List.setIfInBounds_toArray, List.set_cons_zero, List.set_cons_succ]
          have hgb2 := HGs.out g rfl
          have hne : (Value.slice oa k oc).ownBlock ≠ some g := fun e => by have := HOwn.out.2 g e; omega
          refine wpAnyH_ready (rs := [12]) (by kernel_rfl) (by simp) ?_
          refine AllReadyH.cons (by simp only [List.getElem?_toArray, List.getElem?_cons_succ, List.getElem?_cons_zero]; rfl) (fun K hK => ?_) AllReadyH.nil
          rw [if_pos (by rfl)]
          refine wp_append_lies _ _ _ 40 rfl (w.heap.size + 1) 3 i0 (.int .i64 0) 1 8 Try.underlying40 hi0 hz0 hz1 hz2 rfl (by decide) _ _ _ rfl (HOwn.out.1.alloc _) ⟨wr.heap.size, 0, none⟩ 1 1 [.int .i64 (x - y)] rfl rfl (one_newN _ _ _ rfl) (by intro u hu; simp at hu; subst hu; rfl) (by omega) (by unfold maxLen; omega) (by omega) (by have := HB.out.1.size; have := HB.out.2; have := HB2.out.2.1; simp; omega) _ rfl ?_
          intro g3 c3 w3 hown3 hg3 hat3 hlt3
          have hg3' : (wr.alloc (.cells #[.int .i64 (x - y)] 3)).drew.grownBy w3 (Value.slice oa k oc).ownBlock := hg3
          have hsv' : (wr.alloc (.cells #[.int .i64 (x - y)] 3)).drew.ownsRow w1.heap.size 3 1 (.slice (some ⟨g, go, none⟩) L.length sc) L.length (ints L) := HSv.out.alloc _
          have HSv3 := Lib.hid (hsv'.kept hg3' (.inr (fun e => hne e.symm)))
          clear hg3 hsv'
          have hg3 := hg3'
          clear hg3'
          refine hK.out _ _ ?_ (fun hH2 => ?_)
          · exact ⟨hg3.cell (acell HN.out.1 _) (fun e => hne e.symm), hg3.cell (acell HN.out.2 _) (fun e => hne e.symm), by have := hg3.size; simp at this; omega⟩
          clear hK K
          try simp only [Act.put, List.setIfInBounds_toArray, List.set_cons_zero, List.set_cons_succ]
          refine wpAnyH_take (i := 13) (v := ?_) (by simp only [List.getElem?_toArray, List.getElem?_cons_succ, List.getElem?_cons_zero]; rfl) (by kernel_rfl) (by kernel_rfl) (by kernel_rfl) (by exact fun _ _ _ h => h) (Or.inl ⟨by rfl, ?_⟩) (by assumption) ?_
          rotate_left
          · intro w' hSw; (try dsimp only at hSw); go_simp; try with_reducible rfl
          try simp only [Act.put, List.setIfInBounds_toArray, List.set_cons_zero, List.set_cons_succ]
          refine wpAnyH_done (by kernel_rfl) ?_ _
          have HB3 : Hid (Below w.heap.size w w3 ∧ w2.heap.size ≤ w3.heap.size) := ⟨((HB.out.1.alloc HB.out.1.size _).drew).grown hg3 (by have h1 := HB.out.1.size; show w.heap.size ≤ (wr.alloc _).heap.size; simp; omega) (fun g hg => by have := (HOwn.out.1.lt g hg).1; omega), by have h1 : (wr.alloc (.cells #[.int .i64 (x - y)] 3)).heap.size ≤ w3.heap.size := hg3.size; have h2 := HB.out.2; simp at h1; omega⟩
          have HR : Hid (w3.ownsRow (w.heap.size + 1) 3 1 (.slice (some ⟨g3, 0, none⟩) (k + 1) c3) (k + 1) (ints (difK L (k + 1))) ∧ ∀ g', (Value.slice (some ⟨g3, 0, none⟩) (k + 1) c3).ownBlock = some g' → g' < w1.heap.size ∨ w2.heap.size ≤ g') := by
            refine ⟨by rw [HSucc.out]; simpa [ints] using hown3, fun g' hg' => ?_⟩
            simp [Value.ownBlock] at hg'
            subst hg'
            rcases hat3 with h | h
            · exact HOwn.out.2 _ h
            · right; rw [h]; have := HB.out.2; simp [World.drew]; omega
          clear hown3 hg3 hat3 hlt3
          go_wp2_with fail
          go_roundw
          case rel => exact ⟨k + 1, by omega, by go_num, HR, HSv3.out, HB3⟩
          case measure => simp [RowKit.intOf]; omega
        · have hlt1 : ¬ (k : Int) + 1 < (L.length : Int) := by omega
          obtain rfl : k = L.length - 1 := by omega
          have hle : w.heap.size ≤ w.heap.size + 1 := by omega
          have hX := HOwn.out.1
          have HX := Lib.hid (own_base hX hle)
          clear hX
          go_wp2_with fail
          go_ret2
          exact ⟨⟨.slice oa (L.length - 1) oc, rfl, by rw [difK_len]; exact HX.out⟩, HB.out.1⟩
    · rw [show hwF t line = ([], false) from if_neg fun h => hln h.2]
      have HLn := Lib.hid hln
      clear hln
      go_enter Try.func51, Try.ntmps51
      go_wp2_with fail
      go_at_call 19
      refine (HG.out _ (((Below.refl _ _).alloc (Nat.le_refl _) _).alloc (by simp) _)).mono ?_
      rintro e w1 ⟨rfl, hb1⟩
      have HB1 : Hid (Below w.heap.size w w1 ∧ w.heap.size < w1.heap.size) := ⟨(((Below.refl _ _).alloc (Nat.le_refl _) _).alloc (by simp) _).trans (hb1.mono (by simp; omega)), by have := hb1.size; simp at this; omega⟩
      have p0 : w1.cell? ⟨w.heap.size, 0, none⟩ = some (.slice a t.net.stops.length c) := bkeep hb1 (by go_simp)
      have p1 : w1.cell? ⟨w.heap.size, 1, none⟩ = some (.slice a' t.net.lines.length c') := bkeep hb1 (by go_simp)
      have p2 : w1.cell? ⟨w.heap.size, 2, none⟩ = some (.slice b t.trips.length d) := bkeep hb1 (by go_simp)
      have HO1 := Lib.hid (own_later HRow2.out hb1)
      clear hb1 HRow2
      go_wp2_with fail
      go_at_call 98
      refine (HIs.out _ HB1.out.1).mono ?_
      rintro e w2 ⟨he, hb2⟩
      rcases he with ⟨hyes, rfl⟩ | ⟨_, rfl⟩
      · exact absurd hyes.2 HLn.out
      have HB2 : Hid (Below w.heap.size w w2 ∧ w.heap.size < w2.heap.size) := ⟨HB1.out.1.trans (hb2.mono HB1.out.1.size), by have := HB1.out.2; have := hb2.size; omega⟩
      have HO2 := Lib.hid (own_later HO1.out hb2)
      clear hb2 p0 p1 p2 HB1 HO1
      go_wp2_with fail
      go_ret2
      exact ⟨⟨_, rfl, own_base HO2.out (show w.heap.size ≤ w.heap.size + 1 by omega)⟩, HB2.out.1⟩
  · rw [ttB_no hg] at HG
    rw [show hwF t line = ([], false) from if_neg fun h => hg h.1]
    clear hg
    go_enter Try.func51, Try.ntmps51
    go_wp2_with fail
    go_at_call 19
    refine (HG.out _ (((Below.refl _ _).alloc (Nat.le_refl _) _).alloc (by simp) _)).mono ?_
    rintro e w1 ⟨rfl, hb1⟩
    have HB1 : Hid (Below w.heap.size w w1 ∧ w.heap.size < w1.heap.size) := ⟨(((Below.refl _ _).alloc (Nat.le_refl _) _).alloc (by simp) _).trans (hb1.mono (by simp; omega)), by have := hb1.size; simp at this; omega⟩
    have p0 : w1.cell? ⟨w.heap.size, 0, none⟩ = some (.slice a t.net.stops.length c) := bkeep hb1 (by go_simp)
    have p1 : w1.cell? ⟨w.heap.size, 1, none⟩ = some (.slice a' t.net.lines.length c') := bkeep hb1 (by go_simp)
    have p2 : w1.cell? ⟨w.heap.size, 2, none⟩ = some (.slice b t.trips.length d) := bkeep hb1 (by go_simp)
    have HO1 := Lib.hid (own_later HRow2.out hb1)
    clear hb1 HRow2
    go_wp2_with fail
    go_ret2
    exact ⟨⟨_, rfl, own_base HO1.out (show w.heap.size ≤ w.heap.size + 1 by omega)⟩, HB1.out.1⟩
theorem hwF_small (t : TTD) (line : Int) (hs : TTSmall t) : IntsSmall (hwF t line).1 := by
  unfold hwF
  have h1 := stS_len t line t.trips.length (Nat.le_refl _)
  have h2 := hs.2
  unfold TripsSmall at h2
  split
  · simp only [IntsSmall, difK_len]; omega
  · simp [IntsSmall]
theorem bothHeadwaysOf (t : TTD) (hf : TTFits t) (hs : TTSmall t) (m : Int) (w1 : (Lit.int .i64 m).wf = true) : ∃ (r : List Int) (b : Bool), IntsSmall r ∧ ∀ v w, TTAt w v t →
    Calls Try.prog 50 #[v, .int .i64 m] w (fun e w' => ∃ v', e = .returned (.tuple #[v', .bool b]) ∧ IntsIn w.heap.size w'.heap.size w' v' r ∧ Below w.heap.size w w') ∧
    Calls Try.prog 51 #[v, .int .i64 m] w (fun e w' => ∃ v', e = .returned (.tuple #[v', .bool b]) ∧ IntsIn w.heap.size w'.heap.size w' v' r ∧ Below w.heap.size w w') :=
  ⟨_, _, hwF_small t m hs, fun v w h => ⟨(specHeadwaysOf_any v t m w h hf hs).mono fun _ _ => st_in, (implHeadwaysOf_any v t m w h hf hs).mono fun _ _ => st_in⟩⟩
end Go.Proofs.Ytocbgeneabmnmaa

/-
  CONTRACT of spec.l5Without: the timetable without the trip at a place.
-/
import Derived.Test.YtocbgeneabmnmaaTripAppG
import Derived.Test.YtocbgeneabmnmaaL5Own
import Derived.Deep.RegionHeld
namespace Go.Proofs.Ytocbgeneabmnmaa
open Go.RowKit
set_option linter.unusedVariables false
set_option linter.unusedSimpArgs false

theorem TripsAt.drop5 {w : World} {b off c n : Nat} {xs : List TripD} (h : TripsAt w (.slice (some ⟨b, off, none⟩) n c) xs) (p : Nat) (hp : p ≤ xs.length) : TripsAt w (.slice (if c = p then some ⟨b, off, none⟩ else some ⟨b, off + p * 3, none⟩) (n - p) (c - p)) (xs.drop p) := by
  by_cases e : c = p
  · rw [if_pos e]
    obtain ⟨a', c', he, h1, h2, h3⟩ := h
    simp at he
    obtain ⟨rfl, rfl, rfl⟩ := he
    exact ⟨_, _, by rw [List.length_drop], by simp; omega, by omega, fun k hk => by simp at hk; omega⟩
  · rw [if_neg e]; exact h.drop p hp

def wiT (t : TTD) (p : Nat) : TTD := ⟨t.net, t.trips.take p ++ t.trips.drop (p + 1)⟩
theorem own_lit3 (w : World) (B : Nat) (hB : B ≤ w.heap.size) : ((w.alloc (.cells #[] 32 (0, 0))).drew).ownsRow B 32 3 (.slice (some ⟨w.heap.size, 0, none⟩) 0 0) 0 (tripC []) :=
  World.ownsRow_lit (base := B) (e := 32) (size := 3) w #[] 0 hB (by decide) (by simp)

set_option maxRecDepth 100000 in
set_option maxHeartbeats 8000000 in
theorem l5Without_any (v : Value) (t : TTD) (p : Nat) (w : World) (hr : TTAt w v t) (hg : NetGood t.net) (ht : t.trips.length ≤ 12) (hp : p < t.trips.length) :
    Calls Try.prog 95 #[v, .int .i64 (p : Int)] w fun e w' => ∃ z, e = .returned z ∧ TTL w.heap.size w'.heap.size w' z (wiT t p) ∧ Below w.heap.size w w' := by
  have HO := Lib.hid (fun W (hW : Below w.heap.size w W) => l5Own_any v t W (hr.below rfl hW) hg ht)
  obtain ⟨a, c, a', c', tb0, tc, rfl, hn, htr⟩ := tt_open hr
  obtain ⟨_, _, he, hc, hm, HC⟩ := trips_open htr
  simp at he
  obtain ⟨rfl, rfl⟩ := he
  obtain ⟨tb, tq, rfl, htb, -⟩ := HC.out p hp
  have HT := Lib.hid htr
  clear hr hn htr hg HC
  have htk : (t.trips.take p).length = p := by simp; omega
  obtain ⟨p1, hpp⟩ : ∃ p1, p1 = p + 1 := ⟨_, rfl⟩
  have hdr : (t.trips.drop p1).length = t.trips.length - p1 := by simp
  have hw : IntKind.i64.wrap ((p : Int) + 1) = (p1 : Int) := by
    simp [IntKind.wrap, IntKind.bits, IntKind.signed]
    split <;> omega
  have HR0 : Hid (Rz ((w.alloc (.cells #[.slice a t.net.stops.length c, .slice a' t.net.lines.length c', .slice (some ⟨tb, tq, none⟩) t.trips.length tc] 30 (0, 0))).alloc (.cells #[.slice none 0 0, .slice none 0 0, .slice none 0 0] 30 (0, 0))) (w.heap.size + 1)) := ⟨by go_simp, by go_simp, by go_simp, by simp, fun o => by go_simp⟩
  have HB0 : Hid (Below w.heap.size w ((w.alloc (.cells #[.slice a t.net.stops.length c, .slice a' t.net.lines.length c', .slice (some ⟨tb, tq, none⟩) t.trips.length tc] 30 (0, 0))).alloc (.cells #[.slice none 0 0, .slice none 0 0, .slice none 0 0] 30 (0, 0)))) := ((Below.refl _ _).alloc (Nat.le_refl _) _).alloc (by simp) _
  go_enter Try.func95, Try.ntmps95
  go_wp2_with fail
  go_at_call 70
  refine (HO.out _ HB0.out).mono ?_
  rintro e w1 ⟨a5, c5, a5', c5', b5, d5, rfl, hi, hb⟩
  have HI := Lib.hid (hi.later ((Below.refl w1.heap.size w1).alloc (Nat.le_refl _) (.cells #[.slice a5 t.net.stops.length c5, .slice a5' t.net.lines.length c5', .slice (some ⟨b5, 0, none⟩) t.trips.length d5] 30 (0, 0))))
  have HB1 := Lib.hid (HB0.out.trans (hb.mono HB0.out.size))
  have HR1 := Lib.hid ((HR0.out.later hb).later ((Below.refl w1.heap.size w1).alloc (Nat.le_refl _) (.cells #[.slice a5 t.net.stops.length c5, .slice a5' t.net.lines.length c5', .slice (some ⟨b5, 0, none⟩) t.trips.length d5] 30 (0, 0))))
  have p2' : w1.cell? ⟨w.heap.size, 2, none⟩ = some (.slice (some ⟨tb, tq, none⟩) t.trips.length tc) := bkeep hb (by go_simp)
  have hz1 : w.heap.size + 2 ≤ w1.heap.size := by have := hb.size; simp at this; omega
  have p2 := acell p2' (.cells #[.slice a5 t.net.stops.length c5, .slice a5' t.net.lines.length c5', .slice (some ⟨b5, 0, none⟩) t.trips.length d5] 30 (0, 0))
  have HB3 := Lib.hid (HB1.out.alloc HB1.out.size (.cells #[.slice a5 t.net.stops.length c5, .slice a5' t.net.lines.length c5', .slice (some ⟨b5, 0, none⟩) t.trips.length d5] 30 (0, 0)))
  have t0 : (w1.alloc (.cells #[.slice a5 t.net.stops.length c5, .slice a5' t.net.lines.length c5', .slice (some ⟨b5, 0, none⟩) t.trips.length d5] 30 (0, 0))).cell? ⟨w1.heap.size, 0, none⟩ = some (.slice a5 t.net.stops.length c5) := by go_simp
  have t1 : (w1.alloc (.cells #[.slice a5 t.net.stops.length c5, .slice a5' t.net.lines.length c5', .slice (some ⟨b5, 0, none⟩) t.trips.length d5] 30 (0, 0))).cell? ⟨w1.heap.size, 1, none⟩ = some (.slice a5' t.net.lines.length c5') := by go_simp
  have t2 : (w1.alloc (.cells #[.slice a5 t.net.stops.length c5, .slice a5' t.net.lines.length c5', .slice (some ⟨b5, 0, none⟩) t.trips.length d5] 30 (0, 0))).cell? ⟨w1.heap.size, 2, none⟩ = some (.slice (some ⟨b5, 0, none⟩) t.trips.length d5) := by go_simp
  have tf : ∀ o, (w1.alloc (.cells #[.slice a5 t.net.stops.length c5, .slice a5' t.net.lines.length c5', .slice (some ⟨b5, 0, none⟩) t.trips.length d5] 30 (0, 0))).frozen? ⟨w1.heap.size, o, none⟩ = false := fun o => by go_simp
  have hw13 : w1.heap.size < (w1.alloc (.cells #[.slice a5 t.net.stops.length c5, .slice a5' t.net.lines.length c5', .slice (some ⟨b5, 0, none⟩) t.trips.length d5] 30 (0, 0))).heap.size := by simp
  have hp0 : (0 : Int) ≤ (p : Int) := by omega
  have hp1 : (p : Int) ≤ (tc : Int) := by omega
  have hp2 : (p1 : Int) ≤ (t.trips.length : Int) := by omega
  have hp20 : (0 : Int) ≤ (p1 : Int) := by omega
  have hp3 : (t.trips.length : Int) ≤ (tc : Int) := by omega
  have HPp := Lib.hid hpp
  clear hpp
  go_wp2_with fail
  obtain ⟨w3, hw3⟩ : ∃ w3 : World, w3 = w1.alloc (.cells #[.slice a5 t.net.stops.length c5, .slice a5' t.net.lines.length c5', .slice (some ⟨b5, 0, none⟩) t.trips.length d5] 30 (0, 0)) := ⟨_, rfl⟩
  rw [← hw3] at HI HR1 p2 HB3 t0 t1 t2 tf hw13 ⊢
  have hs3 : w3.heap.size = w1.heap.size + 1 := by rw [hw3]; simp
  clear hi hb p2' hw3
  refine wp_region_held_drew (S := (fun w' => w'.cell? ⟨w.heap.size, 2, none⟩ = some (.slice (some ⟨tb, tq, none⟩) t.trips.length tc) ∧ Below w.heap.size w w')) (by kernel_rfl) ?_ (fun hHeld => ?_)
  · exact ⟨p2, HB3.out.drew⟩
  refine wpAnyH_take (i := 1) (v := ?_) (by simp only [List.getElem?_toArray, List.getElem?_cons_succ, List.getElem?_cons_zero]; rfl) (by kernel_rfl) (by kernel_rfl) (by kernel_rfl) (by exact fun _ _ _ h => h) (Or.inl ⟨by rfl, ?_⟩) (by assumption) ?_
  rotate_left
  · intro w' hSw; obtain ⟨e1, _⟩ := hSw
    go_simp; try with_reducible rfl
  try simp only [Act.put, List.setIfInBounds_toArray, List.set_cons_zero, List.set_cons_succ]
  refine wpAnyH_take (i := 2) (v := ?_) (by simp only [List.getElem?_toArray, List.getElem?_cons_succ, List.getElem?_cons_zero]; rfl) (by kernel_rfl) (by kernel_rfl) (by kernel_rfl) (by exact fun _ _ _ h => h) (Or.inl ⟨by rfl, ?_⟩) (by assumption) ?_
  rotate_left
  · intro w' hSw; obtain ⟨e1, _⟩ := hSw
    go_simp; try with_reducible rfl
  try simp only [Act.put, List.setIfInBounds_toArray, List.set_cons_zero, List.set_cons_succ]
  refine wpAnyH_take (i := 3) (v := ?_) (by simp only [List.getElem?_toArray, List.getElem?_cons_succ, List.getElem?_cons_zero]; rfl) (by kernel_rfl) (by kernel_rfl) (by kernel_rfl) (by exact fun _ _ _ h => h) (Or.inl ⟨by rfl, ?_⟩) (by assumption) ?_
  rotate_left
  · intro w' hSw; obtain ⟨e1, _⟩ := hSw
    go_simp; try with_reducible rfl
  try simp only [Act.put, List.setIfInBounds_toArray, List.set_cons_zero, List.set_cons_succ]
  refine wpAnyH_take (i := 4) (v := ?_) (by simp only [List.getElem?_toArray, List.getElem?_cons_succ, List.getElem?_cons_zero]; rfl) (by kernel_rfl) (by kernel_rfl) (by kernel_rfl) (by exact fun _ _ _ h => h) (Or.inl ⟨by rfl, ?_⟩) (by assumption) ?_
  rotate_left
  · intro w' hSw; obtain ⟨e1, _⟩ := hSw
    go_simp; try with_reducible rfl
  try simp only [Act.put, List.setIfInBounds_toArray, List.set_cons_zero, List.set_cons_succ]
  refine wpAnyH_take (i := 6) (v := ?_) (by simp only [List.getElem?_toArray, List.getElem?_cons_succ, List.getElem?_cons_zero]; rfl) (by kernel_rfl) (by kernel_rfl) (by kernel_rfl) (by exact fun _ _ _ h => h) (Or.inl ⟨by rfl, ?_⟩) (by assumption) ?_
  rotate_left
  · intro w' hSw; obtain ⟨e1, _⟩ := hSw
    go_simp; try with_reducible rfl
  try simp only [Act.put, List.setIfInBounds_toArray, List.set_cons_zero, List.set_cons_succ]
  refine wpAnyH_take (i := 7) (v := ?_) (by simp only [List.getElem?_toArray, List.getElem?_cons_succ, List.getElem?_cons_zero]; rfl) (by kernel_rfl) (by kernel_rfl) (by kernel_rfl) (by exact fun _ _ _ h => h) (Or.inl ⟨by rfl, ?_⟩) (by assumption) ?_
  rotate_left
  · intro w' hSw; obtain ⟨e1, _⟩ := hSw
    go_simp; try with_reducible rfl
  try simp only [Act.put, List.setIfInBounds_toArray, List.set_cons_zero, List.set_cons_succ]
  refine wpAnyH_take (i := 8) (v := ?_) (by simp only [List.getElem?_toArray, List.getElem?_cons_succ, List.getElem?_cons_zero]; rfl) (by kernel_rfl) (by kernel_rfl) (by kernel_rfl) (by exact fun _ _ _ h => h) (Or.inl ⟨by rfl, ?_⟩) (by assumption) ?_
  rotate_left
  · intro w' hSw; obtain ⟨e1, _⟩ := hSw
    go_simp; try with_reducible rfl
  try simp only [Act.put, List.setIfInBounds_toArray, List.set_cons_zero, List.set_cons_succ]
  refine wpAnyH_take (i := 9) (v := ?_) (by simp only [List.getElem?_toArray, List.getElem?_cons_succ, List.getElem?_cons_zero]; rfl) (by kernel_rfl) (by kernel_rfl) (by kernel_rfl) (by exact fun _ _ _ h => h) (Or.inl ⟨by rfl, ?_⟩) (by assumption) ?_
  rotate_left
  · intro w' hSw; obtain ⟨e1, _⟩ := hSw
    go_simp; try with_reducible rfl
  try simp only [Act.put, List.setIfInBounds_toArray, List.set_cons_zero, List.set_cons_succ]
  refine wpAnyH_take (i := 10) (v := ?_) (by simp only [List.getElem?_toArray, List.getElem?_cons_succ, List.getElem?_cons_zero]; rfl) (by kernel_rfl) (by kernel_rfl) (by kernel_rfl) (by exact fun _ _ _ h => h) (Or.inl ⟨by rfl, ?_⟩) (by assumption) ?_
  rotate_left
  · intro w' hSw; obtain ⟨e1, _⟩ := hSw
    go_simp; try with_reducible rfl
  try simp only [Act.put, List.setIfInBounds_toArray, List.set_cons_zero, List.set_cons_succ]
  refine wpAnyH_ready (rs := [0]) (by kernel_rfl) (by simp) ?_
  refine AllReadyH.cons (by simp only [List.getElem?_toArray, List.getElem?_cons_zero]; rfl) (fun K hK => ?_) AllReadyH.nil
  go_simp
  have HB4 := Lib.hid ((HB3.out.alloc HB3.out.size (.cells #[] 32 (0, 0))).drew)
  have hown4 := own_lit3 w3 (w.heap.size + 2) (by omega)
  rw [hs3] at hown4
  refine hK.out _ _ ?_ (fun hH4 => ?_)
  · exact ⟨acell p2 _, HB4.out⟩
  clear hK K
  try simp only [Act.put, List.setIfInBounds_toArray, List.set_cons_zero, List.set_cons_succ]
  obtain ⟨g5, k5, w5, hrun5, hown5, hgr5, hat5, hlt5⟩ := run_append_tripsG ((w3.alloc (.cells #[] 32 (0, 0))).drew) (w.heap.size + 2) (w1.heap.size + 1) 0 0 [] rfl (by omega) (t.trips.take p) (some ⟨tb, tq, none⟩) tc (by rw [htk]; exact (HT.out.below rfl HB4.out).take p (by omega)) (by omega) (by simp; omega) hown4
  rw [htk] at hrun5
  simp only [List.nil_append, htk, Nat.zero_add] at hown5 hrun5
  have hne5 : ∀ q, q < w.heap.size + 2 → some q ≠ some (w1.heap.size + 1) := fun q hq e => by simp at e; omega
  have hz5 := hgr5.size
  simp at hz5
  have HB5 := Lib.hid (HB4.out.grown hgr5 (by simp; omega) (fun q hq => by simp at hq; omega))
  refine wpAnyH_ready (rs := [5]) (by kernel_rfl) (by simp) ?_
  refine AllReadyH.cons (by simp only [List.getElem?_toArray, List.getElem?_cons_succ, List.getElem?_cons_zero]; rfl) (fun K hK => ?_) AllReadyH.nil
  refine step_append_run rfl (.tmp 8) (.tmp 12) 28 rfl rfl rfl hrun5 ?_
  refine hK.out _ _ ?_ (fun hH5 => ?_)
  · exact ⟨hgr5.cell hH4.1 (hne5 _ (by dsimp only; omega)), HB5.out⟩
  clear hK K
  try simp only [Act.put, List.setIfInBounds_toArray, List.set_cons_zero, List.set_cons_succ]
  obtain ⟨g6, k6, w6, hrun6, hown6, hgr6, hat6, hlt6⟩ := run_append_tripsG w5 (w.heap.size + 2) g5 p k5 (t.trips.take p) htk (by omega) (t.trips.drop p1) (if tc = p1 then some ⟨tb, tq, none⟩ else some ⟨tb, tq + p1 * 3, none⟩) (tc - p1) (by rw [hdr]; exact (HT.out.below rfl HB5.out).drop5 p1 (by omega)) (by omega) (by omega) hown5
  rw [hdr] at hrun6 hown6
  have hg5 : w3.heap.size ≤ g5 := by simp at hat5; omega
  have hne6 : ∀ q, q < w3.heap.size → some q ≠ some g5 := fun q hq e => by simp at e; omega
  have hz6 := hgr6.size
  have HB6 := Lib.hid (HB5.out.grown hgr6 (by omega) (fun q hq => by simp at hq; omega))
  have hk6 : ∀ q, q < w3.heap.size → w6.heap[q]? = w3.heap[q]? := fun q hq => by
    rw [hgr6.block q (by omega) (hne6 q hq), hgr5.block q (by simp; omega) (by simp; omega)]
    exact ((Below.refl _ _).alloc (Nat.le_refl _) (.cells #[] 32 (0, 0))).block (w := w3) q hq
  refine wpAnyH_ready (rs := [11]) (by kernel_rfl) (by simp) ?_
  refine AllReadyH.cons (by simp only [List.getElem?_toArray, List.getElem?_cons_succ, List.getElem?_cons_zero]; rfl) (fun K hK => ?_) AllReadyH.nil
  refine step_append_run rfl (.tmp 13) (.tmp 18) 28 rfl rfl rfl hrun6 ?_
  refine hK.out _ _ ?_ (fun hH6 => ?_)
  · exact ⟨hgr6.cell hH5.1 (hne6 _ (by dsimp only; omega)), HB6.out⟩
  clear hK K
  try simp only [Act.put, List.setIfInBounds_toArray, List.set_cons_zero, List.set_cons_succ]
  refine wpAnyH_take (i := 12) (v := ?_) (by simp only [List.getElem?_toArray, List.getElem?_cons_succ, List.getElem?_cons_zero]; rfl) (by kernel_rfl) (by kernel_rfl) (by kernel_rfl) (by exact fun _ _ _ h => h) (Or.inl ⟨by rfl, ?_⟩) (by assumption) ?_
  rotate_left
  · intro w' hSw; obtain ⟨e1, _⟩ := hSw
    go_simp; try with_reducible rfl
  try simp only [Act.put, List.setIfInBounds_toArray, List.set_cons_zero, List.set_cons_succ]
  have r0 := (World.cell?_of_block (a := ⟨w1.heap.size, 0, none⟩) (hk6 w1.heap.size hw13)).trans t0
  have r1 := (World.cell?_of_block (a := ⟨w1.heap.size, 1, none⟩) (hk6 w1.heap.size hw13)).trans t1
  have r2 := (World.cell?_of_block (a := ⟨w1.heap.size, 2, none⟩) (hk6 w1.heap.size hw13)).trans t2
  have f6 : ∀ o, w6.frozen? ⟨w1.heap.size, o, none⟩ = false := fun o => (World.frozen?_of_block (a := ⟨w1.heap.size, o, none⟩) (hk6 w1.heap.size hw13)).trans (tf o)
  have hg6 : w3.heap.size ≤ g6 := by omega
  have hL : (t.trips.take p ++ t.trips.drop p1).length = p + (t.trips.length - p1) := by rw [List.length_append, htk, hdr]
  have HNet : Hid (∃ m m', NetL m m' w6 (.agg #[.slice a5 t.net.stops.length c5, .slice a5' t.net.lines.length c5']) t.net ∧ w.heap.size + 2 ≤ m ∧ m ≤ m' ∧ m' ≤ w1.heap.size) := by
    obtain ⟨_, _, _, m, m', hv, h1, _, h3, h4, _⟩ := HI.out
    simp at hv
    obtain ⟨rfl, rfl, -⟩ := hv
    have h3' := h3.1
    simp at h3'
    exact ⟨m, m', h1.keep (by omega) (fun q q1 q2 q3 => hk6 q q3), by omega, h3.2, h4⟩
  have HTr : Hid (TripsIn (w.heap.size + 2) w6.heap.size w6 (.slice (some ⟨g6, 0, none⟩) (p + (t.trips.length - p1)) k6) (t.trips.take p ++ t.trips.drop p1)) := ⟨by rw [hL]; exact hown6, fun g hg => by simp [Value.ownBlock] at hg; omega⟩
  have HR6 : Hid (Rz w6 (w.heap.size + 1)) := by
    obtain ⟨q0, q1, q2, qz, qf⟩ := HR1.out
    have hb := hk6 (w.heap.size + 1) (by omega)
    exact ⟨(World.cell?_of_block (a := ⟨w.heap.size + 1, 0, none⟩) hb).trans q0, (World.cell?_of_block (a := ⟨w.heap.size + 1, 1, none⟩) hb).trans q1, (World.cell?_of_block (a := ⟨w.heap.size + 1, 2, none⟩) hb).trans q2, by omega, fun o => (World.frozen?_of_block (a := ⟨w.heap.size + 1, o, none⟩) hb).trans (qf o)⟩
  obtain ⟨q0, q1, q2, qz, qf⟩ := HR6.out
  have hq1 : w.heap.size + 1 ≠ w1.heap.size := by omega
  have hq2 : w1.heap.size ≠ w.heap.size + 1 := by omega
  refine wpAnyH_ready (rs := [13]) (by kernel_rfl) (by simp) ?_
  refine AllReadyH.cons (by simp only [List.getElem?_toArray, List.getElem?_cons_succ, List.getElem?_cons_zero]; rfl) (fun K hK => ?_) AllReadyH.nil
  go_simp
  refine hK.out _ _ ?_ (fun hH7 => ?_)
  · exact ⟨(set_otherT (by omega)).trans hH6.1, HB6.out.setCell (p := ⟨w1.heap.size, 2, none⟩) (by show w.heap.size ≤ w1.heap.size; omega) _⟩
  clear hK K
  try simp only [Act.put, List.setIfInBounds_toArray, List.set_cons_zero, List.set_cons_succ]
  refine wpAnyH_done (by kernel_rfl) ?_ _
  go_wp2_with fail
  all_goals
    refine bodyPost_ret (v := .agg #[.slice a5 t.net.stops.length c5, .slice a5' t.net.lines.length c5', .slice (some ⟨g6, 0, none⟩) (p + (t.trips.length - p1)) k6]) (by simp only [results, Try.results95]; go_simp) rfl ?_
    have ho : ∀ u u0 u1 u2 : Value, Out (w.heap.size + 1) (w.heap.size + 2) (w6.setCell ⟨w1.heap.size, 2, none⟩ u) ((((w6.setCell ⟨w1.heap.size, 2, none⟩ u).setCell ⟨w.heap.size + 1, 0, none⟩ u0).setCell ⟨w.heap.size + 1, 1, none⟩ u1).setCell ⟨w.heap.size + 1, 2, none⟩ u2) := fun u u0 u1 u2 => (((Out.refl _ _ _).setCell (p := ⟨_, _, none⟩) (by simp) (by simp) _).setCell (p := ⟨_, _, none⟩) (by simp) (by simp) _).setCell (p := ⟨_, _, none⟩) (by simp) (by simp) _
    have ho1 : ∀ u : Value, Out w1.heap.size w3.heap.size w6 (w6.setCell ⟨w1.heap.size, 2, none⟩ u) := fun u => (Out.refl _ _ _).setCell (p := ⟨_, _, none⟩) (by simp) (by simp; omega) _
    obtain ⟨m, m', hN, hm1, hm2, hm3⟩ := HNet.out
    have hpq := HPp.out
    refine ⟨_, rfl, ?_, ?_⟩
    rotate_left
    · exact ((hH7.2.setCell (p := ⟨w.heap.size + 1, 0, none⟩) (by simp) _).setCell (p := ⟨w.heap.size + 1, 1, none⟩) (by simp) _).setCell (p := ⟨w.heap.size + 1, 2, none⟩) (by simp) _
    show TTL _ _ _ _ ⟨t.net, t.trips.take p ++ t.trips.drop (p + 1)⟩
    rw [← hpq]
    have hg6l : ∀ g, (Value.slice (some ⟨g6, 0, none⟩) (p + (t.trips.length - p1)) k6).ownBlock = some g → g = g6 := fun g hg => by simp [Value.ownBlock] at hg; exact hg.symm
    have hT7 := own_block HTr.out.1 (w' := (((w6.setCell ⟨w1.heap.size, 2, none⟩ (.slice (some ⟨g6, 0, none⟩) (p + (t.trips.length - p1)) k6)).setCell ⟨w.heap.size + 1, 0, none⟩ (.slice a5 t.net.stops.length c5)).setCell ⟨w.heap.size + 1, 1, none⟩ (.slice a5' t.net.lines.length c5')).setCell ⟨w.heap.size + 1, 2, none⟩ (.slice (some ⟨g6, 0, none⟩) (p + (t.trips.length - p1)) k6)) (fun g hg => by
      have := hg6l g hg
      subst this
      rw [(ho _ _ _ _).block (.inr (by omega)) (by simp [World.setCell]; omega), (ho1 _).block (.inr (by omega)) hlt6])
    exact ⟨_, _, _, m, m', rfl, (hN.out (ho1 _) (.inl (by omega))).out (ho _ _ _ _) (.inr (by omega)), ⟨own_base hT7 (by omega), fun g hg => by have := hg6l g hg; simp [World.setCell]; omega⟩, ⟨by omega, hm2⟩, by simp [World.setCell]; omega, fun g hg => by have := hg6l g hg; omega⟩
end Go.Proofs.Ytocbgeneabmnmaa

/-
  CONTRACT of spec.l5Own: a timetable of the call's own.
-/
import Derived.Test.YtocbgeneabmnmaaTripApp
import Derived.Test.YtocbgeneabmnmaaNetL
import Derived.Test.YtocbgeneabmnmaaL2Own
import Derived.Deep.RegionHeld
namespace Go.Proofs.Ytocbgeneabmnmaa
open Go.RowKit
set_option linter.unusedVariables false
set_option linter.unusedSimpArgs false

set_option maxRecDepth 100000 in
set_option maxHeartbeats 8000000 in
theorem l5Own_any (v : Value) (t : TTD) (w : World) (hr : TTAt w v t) (hg : NetGood t.net) (ht : t.trips.length ≤ 12) :
    Calls Try.prog 70 #[v] w fun e w' => ∃ a c a' c' b d, e = .returned (.agg #[.slice a t.net.stops.length c, .slice a' t.net.lines.length c', .slice (some ⟨b, 0, none⟩) t.trips.length d]) ∧
      TTL w.heap.size w'.heap.size w' (.agg #[.slice a t.net.stops.length c, .slice a' t.net.lines.length c', .slice (some ⟨b, 0, none⟩) t.trips.length d]) t ∧ Below w.heap.size w w' := by
  obtain ⟨a, c, a', c', tb, tc, rfl, hn, htr⟩ := tt_open hr
  have HN := Lib.hid (fun W (hW : Below w.heap.size w W) => l2Own_any _ t.net W (hn.below rfl hW) hg)
  have HT := Lib.hid htr
  clear hr hn htr hg
  have HB0 : Hid (Below w.heap.size w ((w.alloc (.cells #[.slice a t.net.stops.length c, .slice a' t.net.lines.length c', .slice tb t.trips.length tc] 30 (0, 0))).alloc (.cells #[.slice none 0 0, .slice none 0 0, .slice none 0 0] 30 (0, 0)))) := ((Below.refl _ _).alloc (Nat.le_refl _) _).alloc (by simp) _
  have HR0 : Hid (Rz ((w.alloc (.cells #[.slice a t.net.stops.length c, .slice a' t.net.lines.length c', .slice tb t.trips.length tc] 30 (0, 0))).alloc (.cells #[.slice none 0 0, .slice none 0 0, .slice none 0 0] 30 (0, 0))) (w.heap.size + 1)) := ⟨by go_simp, by go_simp, by go_simp, by simp, fun o => by go_simp⟩
  go_enter Try.func70, Try.ntmps70
  go_wp2_with fail
  refine wp_region_held_drew (S := (fun w' => w'.cell? ⟨w.heap.size, 0, none⟩ = some (.slice a t.net.stops.length c) ∧ w'.cell? ⟨w.heap.size, 1, none⟩ = some (.slice a' t.net.lines.length c') ∧ w'.cell? ⟨w.heap.size, 2, none⟩ = some (.slice tb t.trips.length tc) ∧ Below w.heap.size w w')) (by kernel_rfl) ?_ (fun hHeld => ?_)
  · exact ⟨by go_simp, by go_simp, by go_simp, HB0.out.drew⟩
  have hr0 : Rz ((w.alloc (.cells #[.slice a t.net.stops.length c, .slice a' t.net.lines.length c', .slice tb t.trips.length tc] 30 (0, 0))).alloc (.cells #[.slice none 0 0, .slice none 0 0, .slice none 0 0] 30 (0, 0))).drew (w.heap.size + 1) := HR0.out
  refine wpAnyH_take (i := 0) (v := ?_) (by simp only [List.getElem?_toArray, List.getElem?_cons_zero]; rfl) (by kernel_rfl) (by kernel_rfl) (by kernel_rfl) (by exact fun _ _ _ h => h) (Or.inl ⟨by rfl, ?_⟩) (by assumption) ?_
  rotate_left
  · intro w' hSw; obtain ⟨e1, e2, e3, _⟩ := hSw
    go_simp; try with_reducible rfl
  try simp only [Act.put, List.setIfInBounds_toArray, List.set_cons_zero, List.set_cons_succ]
  refine wpAnyH_take (i := 1) (v := ?_) (by simp only [List.getElem?_toArray, List.getElem?_cons_succ, List.getElem?_cons_zero]; rfl) (by kernel_rfl) (by kernel_rfl) (by kernel_rfl) (by exact fun _ _ _ h => h) (Or.inl ⟨by rfl, ?_⟩) (by assumption) ?_
  rotate_left
  · intro w' hSw; obtain ⟨e1, e2, e3, _⟩ := hSw
    go_simp; try with_reducible rfl
  try simp only [Act.put, List.setIfInBounds_toArray, List.set_cons_zero, List.set_cons_succ]
  refine wpAnyH_take (i := 4) (v := ?_) (by simp only [List.getElem?_toArray, List.getElem?_cons_succ, List.getElem?_cons_zero]; rfl) (by kernel_rfl) (by kernel_rfl) (by kernel_rfl) (by exact fun _ _ _ h => h) (Or.inl ⟨by rfl, ?_⟩) (by assumption) ?_
  rotate_left
  · intro w' hSw; obtain ⟨e1, e2, e3, _⟩ := hSw
    go_simp; try with_reducible rfl
  try simp only [Act.put, List.setIfInBounds_toArray, List.set_cons_zero, List.set_cons_succ]
  refine wpAnyH_take (i := 5) (v := ?_) (by simp only [List.getElem?_toArray, List.getElem?_cons_succ, List.getElem?_cons_zero]; rfl) (by kernel_rfl) (by kernel_rfl) (by kernel_rfl) (by exact fun _ _ _ h => h) (Or.inl ⟨by rfl, ?_⟩) (by assumption) ?_
  rotate_left
  · intro w' hSw; obtain ⟨e1, e2, e3, _⟩ := hSw
    go_simp; try with_reducible rfl
  try simp only [Act.put, List.setIfInBounds_toArray, List.set_cons_zero, List.set_cons_succ]
  refine wpAnyH_ready (rs := [2, 3]) (by kernel_rfl) (by simp) ?_
  refine AllReadyH.cons (by simp only [List.getElem?_toArray, List.getElem?_cons_succ, List.getElem?_cons_zero]; rfl) (fun K hK => ?_) (AllReadyH.cons (by simp only [List.getElem?_toArray, List.getElem?_cons_succ, List.getElem?_cons_zero]; rfl) (fun K hK => ?_) AllReadyH.nil)
  · go_simp
    go_at_call 114
    refine (HN.out _ (belT hHeld)).mono ?_
    rintro e w4 ⟨a5, c5, a5', c5', rfl, hi, hb⟩
    have hr1 := hr0.later hb
    have hz4 := hb.size
    go_wp2_with fail
    refine hK.out _ _ ?_ (fun hHc => ?_)
    · exact keepT hb hHeld
    clear hK K
    try simp only [Act.put, List.setIfInBounds_toArray, List.set_cons_zero, List.set_cons_succ]
    refine wpAnyH_ready (rs := [3]) (by kernel_rfl) (by simp) ?_
    refine AllReadyH.cons (by simp only [List.getElem?_toArray, List.getElem?_cons_succ, List.getElem?_cons_zero]; rfl) (fun K hK => ?_) AllReadyH.nil
    go_simp
    have hr2 := hr1.later ((Below.refl _ _).alloc (Nat.le_refl _) (.cells #[] 32 (0, 0)))
    refine hK.out _ _ ?_ (fun hHl => ?_)
    · exact keepT ((Below.refl _ _).alloc (Nat.le_refl _) _) hHc
    clear hK K
    try simp only [Act.put, List.setIfInBounds_toArray, List.set_cons_zero, List.set_cons_succ]
    obtain ⟨g6, c6, w6, hrun, hown6, hgr6, hat6, hlt6⟩ := run_append_trips (w4.alloc (.cells #[] 32 (0, 0))) (w.heap.size + 2) w4.heap.size t.trips tb tc (HT.out.below rfl (belT hHl)) (by omega) (by have h9 := hz4; simp at h9; simp; omega) (World.ownsRow_lit w4 #[] 0 (by have h9 := hz4; simp at h9; omega) (by decide) (by simp))
    have hne6 : ∀ q, q < w.heap.size + 2 → some q ≠ some w4.heap.size := fun q hq e => by simp at e; have h9 := hz4; simp at h9; omega
    have hr6 := hr2.grown hgr6 (hne6 _ (by omega)) (by have h9 := hz4; simp at h9; simp; omega)
    have hz6 := hgr6.size
    have hNet : Hid (NetL (w.heap.size + 2) (w4.heap.size) w6 (.agg #[.slice a5 t.net.stops.length c5, .slice a5' t.net.lines.length c5']) t.net) := (hi.base (l' := w.heap.size + 2) (by simp <;> omega) (Nat.le_refl _)).keep (by simp at hz6; omega) (fun q h1 h2 h3 => by rw [hgr6.block q (by simp; omega) (by simp; omega), ((Below.refl _ _).alloc (Nat.le_refl _) _).block q h3])
    have hside : ∀ q, (Value.slice (some ⟨g6, 0, none⟩) t.trips.length c6).ownBlock = some q → q < w.heap.size + 2 ∨ w4.heap.size ≤ q := fun q hq => by
      simp [Value.ownBlock] at hq; subst hq; have h9 := hz4; simp at h9; simp at hat6; omega
    have hml : w.heap.size + 2 ≤ w.heap.size + 2 ∧ w.heap.size + 2 ≤ w4.heap.size ∧ w4.heap.size ≤ w6.heap.size := by have h9 := hz4; simp at h9; simp at hz6; omega
    have HO6 := Lib.hid hown6
    have hbel6 : Below w.heap.size w w6 := (belT hHl).grown hgr6 (by have h9 := hz4; simp at h9; simp; omega) (fun q hq => by simp at hq; subst hq; have h9 := hz4; simp at h9; omega)
    have hc6 := hbel6
    refine wpAnyH_ready (rs := [6]) (by kernel_rfl) (by simp) ?_
    refine AllReadyH.cons (by simp only [List.getElem?_toArray, List.getElem?_cons_succ, List.getElem?_cons_zero]; rfl) (fun K hK => ?_) AllReadyH.nil
    refine step_append_run rfl (.tmp 6) (.tmp 8) 28 rfl rfl rfl hrun ?_
    go_wp2_with fail
    refine hK.out _ _ ?_ (fun hH6 => ?_)
    · exact ⟨hgr6.cell hHl.1 (hne6 _ (by dsimp only; omega)), hgr6.cell hHl.2.1 (hne6 _ (by dsimp only; omega)), hgr6.cell hHl.2.2.1 (hne6 _ (by dsimp only; omega)), hbel6⟩
    clear hK K
    try simp only [Act.put, List.setIfInBounds_toArray, List.set_cons_zero, List.set_cons_succ]
    refine wpAnyH_take (i := 7) (v := ?_) (by simp only [List.getElem?_toArray, List.getElem?_cons_succ, List.getElem?_cons_zero]; rfl) (by kernel_rfl) (by kernel_rfl) (by kernel_rfl) (by exact fun _ _ _ h => h) (Or.inl ⟨by rfl, ?_⟩) (by assumption) ?_
    rotate_left
    · intro w' hSw; obtain ⟨e1, e2, e3, _⟩ := hSw
      go_simp; try with_reducible rfl
    try simp only [Act.put, List.setIfInBounds_toArray, List.set_cons_zero, List.set_cons_succ]
    obtain ⟨q0, q1, q2, qz, qf⟩ := hr6
    refine wpAnyH_ready (rs := [8]) (by kernel_rfl) (by simp) ?_
    refine AllReadyH.cons (by simp only [List.getElem?_toArray, List.getElem?_cons_succ, List.getElem?_cons_zero]; rfl) (fun K hK => ?_) AllReadyH.nil
    go_simp
    refine hK.out _ _ ?_ (fun hH8 => ?_)
    · exact ⟨(set_otherT (by omega)).trans ((set_otherT (by omega)).trans ((set_otherT (by omega)).trans hH6.1)), (set_otherT (by omega)).trans ((set_otherT (by omega)).trans ((set_otherT (by omega)).trans hH6.2.1)), (set_otherT (by omega)).trans ((set_otherT (by omega)).trans ((set_otherT (by omega)).trans hH6.2.2.1)), ((hbel6.setCell (p := ⟨w.heap.size + 1, _, none⟩) (by simp) _).setCell (p := ⟨w.heap.size + 1, _, none⟩) (by simp) _).setCell (p := ⟨w.heap.size + 1, _, none⟩) (by simp) _⟩
    clear hK K
    try simp only [Act.put, List.setIfInBounds_toArray, List.set_cons_zero, List.set_cons_succ]
    refine wpAnyH_done (by kernel_rfl) ?_ _
    go_wp2_with fail
    refine bodyPost_ret (v := .agg #[.slice a5 t.net.stops.length c5, .slice a5' t.net.lines.length c5', .slice (some ⟨g6, 0, none⟩) t.trips.length c6]) (by simp only [results, Try.results70]; go_simp) rfl ?_
    have hq : ∀ (u0 u1 u2 : Value), Out (w.heap.size + 1) (w.heap.size + 2) w6 (((w6.setCell ⟨w.heap.size + 1, 0, none⟩ u0).setCell ⟨w.heap.size + 1, 1, none⟩ u1).setCell ⟨w.heap.size + 1, 2, none⟩ u2) := fun u0 u1 u2 => (((Out.refl _ _ _).setCell (p := ⟨_, _, none⟩) (by simp) (by simp) _).setCell (p := ⟨_, _, none⟩) (by simp) (by simp) _).setCell (p := ⟨_, _, none⟩) (by simp) (by simp) _
    have hzz := (hq (.slice a5 t.net.stops.length c5) (.slice a5' t.net.lines.length c5') (.slice (some ⟨g6, 0, none⟩) t.trips.length c6)).below.size
    have htr : TripsIn w.heap.size w6.heap.size w6 (.slice (some ⟨g6, 0, none⟩) t.trips.length c6) t.trips := ⟨own_base HO6.out (by omega), fun g hg => by simp [Value.ownBlock] at hg; omega⟩
    have htr2 : TripsIn (w.heap.size + 2) w6.heap.size w6 (.slice (some ⟨g6, 0, none⟩) t.trips.length c6) t.trips := ⟨HO6.out, fun g hg => by simp [Value.ownBlock] at hg; omega⟩
    exact ⟨_, _, _, _, _, _, rfl, ⟨_, _, _, _, _, rfl, hNet.out.keep (hq _ _ _).below.size (fun q h1 _ h3 => (hq _ _ _).block (.inr (by omega)) h3), (htr2.out (hq _ _ _) (.inr (by omega))).base (by omega) (by omega), ⟨by omega, hml.2.1⟩, by omega, hside⟩, hH8.2.2.2⟩
  · go_simp
    have hrl := hr0.later ((Below.refl _ _).alloc (Nat.le_refl _) (.cells #[] 32 (0, 0)))
    refine hK.out _ _ ?_ (fun hHl => ?_)
    · exact keepT ((Below.refl _ _).alloc (Nat.le_refl _) _) hHeld
    clear hK K
    try simp only [Act.put, List.setIfInBounds_toArray, List.set_cons_zero, List.set_cons_succ]
    refine wpAnyH_ready (rs := [2]) (by kernel_rfl) (by simp) ?_
    refine AllReadyH.cons (by simp only [List.getElem?_toArray, List.getElem?_cons_succ, List.getElem?_cons_zero]; rfl) (fun K hK => ?_) AllReadyH.nil
    go_simp
    go_at_call 114
    refine (HN.out _ (belT hHl)).mono ?_
    rintro e w4 ⟨a5, c5, a5', c5', rfl, hi, hb⟩
    have hr1 := hrl.later hb
    have hz4 := hb.size
    go_wp2_with fail
    refine hK.out _ _ ?_ (fun hHc => ?_)
    · exact keepT hb hHl
    clear hK K
    try simp only [Act.put, List.setIfInBounds_toArray, List.set_cons_zero, List.set_cons_succ]
    obtain ⟨g6, c6, w6, hrun, hown6, hgr6, hat6, hlt6⟩ := run_append_trips w4 (w.heap.size + 2) (w.heap.size + 1 + 1) t.trips tb tc (HT.out.below rfl (belT hHc)) (by omega) (by have h9 := hz4; simp at h9; omega) (own_later (by have h9 := World.ownsRow_lit (base := w.heap.size + 2) (e := 32) (size := 3) ((w.alloc (.cells #[.slice a t.net.stops.length c, .slice a' t.net.lines.length c', .slice tb t.trips.length tc] 30 (0, 0))).alloc (.cells #[.slice none 0 0, .slice none 0 0, .slice none 0 0] 30 (0, 0))).drew #[] 0 (by simp) (by decide) (by simp); simp at h9; exact h9) hb)
    have hne6 : ∀ q, q < w.heap.size + 2 → some q ≠ some (w.heap.size + 1 + 1) := fun q hq e => by simp at e; omega
    have hr6 := hr1.grown hgr6 (hne6 _ (by omega)) (by have h9 := hz4; simp at h9; omega)
    have hz6 := hgr6.size
    have hNet : Hid (NetL (w.heap.size + 3) (w4.heap.size) w6 (.agg #[.slice a5 t.net.stops.length c5, .slice a5' t.net.lines.length c5']) t.net) := (hi.base (l' := w.heap.size + 3) (by simp <;> omega) (Nat.le_refl _)).keep (by omega) (fun q h1 h2 h3 => by rw [hgr6.block q h3 (by simp; omega)])
    have hside : ∀ q, (Value.slice (some ⟨g6, 0, none⟩) t.trips.length c6).ownBlock = some q → q < w.heap.size + 3 ∨ w4.heap.size ≤ q := fun q hq => by
      simp [Value.ownBlock] at hq; subst hq; omega
    have hml : w.heap.size + 2 ≤ w.heap.size + 3 ∧ w.heap.size + 3 ≤ w4.heap.size ∧ w4.heap.size ≤ w6.heap.size := by have h9 := hz4; simp at h9; omega
    have HO6 := Lib.hid hown6
    have hbel6 : Below w.heap.size w w6 := (belT hHc).grown hgr6 (by have h9 := hz4; simp at h9; omega) (fun q hq => by simp at hq; subst hq; omega)
    have hc6 := hbel6
    refine wpAnyH_ready (rs := [6]) (by kernel_rfl) (by simp) ?_
    refine AllReadyH.cons (by simp only [List.getElem?_toArray, List.getElem?_cons_succ, List.getElem?_cons_zero]; rfl) (fun K hK => ?_) AllReadyH.nil
    refine step_append_run rfl (.tmp 6) (.tmp 8) 28 rfl rfl rfl hrun ?_
    go_wp2_with fail
    refine hK.out _ _ ?_ (fun hH6 => ?_)
    · exact ⟨hgr6.cell hHc.1 (hne6 _ (by dsimp only; omega)), hgr6.cell hHc.2.1 (hne6 _ (by dsimp only; omega)), hgr6.cell hHc.2.2.1 (hne6 _ (by dsimp only; omega)), hbel6⟩
    clear hK K
    try simp only [Act.put, List.setIfInBounds_toArray, List.set_cons_zero, List.set_cons_succ]
    refine wpAnyH_take (i := 7) (v := ?_) (by simp only [List.getElem?_toArray, List.getElem?_cons_succ, List.getElem?_cons_zero]; rfl) (by kernel_rfl) (by kernel_rfl) (by kernel_rfl) (by exact fun _ _ _ h => h) (Or.inl ⟨by rfl, ?_⟩) (by assumption) ?_
    rotate_left
    · intro w' hSw; obtain ⟨e1, e2, e3, _⟩ := hSw
      go_simp; try with_reducible rfl
    try simp only [Act.put, List.setIfInBounds_toArray, List.set_cons_zero, List.set_cons_succ]
    obtain ⟨q0, q1, q2, qz, qf⟩ := hr6
    refine wpAnyH_ready (rs := [8]) (by kernel_rfl) (by simp) ?_
    refine AllReadyH.cons (by simp only [List.getElem?_toArray, List.getElem?_cons_succ, List.getElem?_cons_zero]; rfl) (fun K hK => ?_) AllReadyH.nil
    go_simp
    refine hK.out _ _ ?_ (fun hH8 => ?_)
    · exact ⟨(set_otherT (by omega)).trans ((set_otherT (by omega)).trans ((set_otherT (by omega)).trans hH6.1)), (set_otherT (by omega)).trans ((set_otherT (by omega)).trans ((set_otherT (by omega)).trans hH6.2.1)), (set_otherT (by omega)).trans ((set_otherT (by omega)).trans ((set_otherT (by omega)).trans hH6.2.2.1)), ((hbel6.setCell (p := ⟨w.heap.size + 1, _, none⟩) (by simp) _).setCell (p := ⟨w.heap.size + 1, _, none⟩) (by simp) _).setCell (p := ⟨w.heap.size + 1, _, none⟩) (by simp) _⟩
    clear hK K
    try simp only [Act.put, List.setIfInBounds_toArray, List.set_cons_zero, List.set_cons_succ]
    refine wpAnyH_done (by kernel_rfl) ?_ _
    go_wp2_with fail
    refine bodyPost_ret (v := .agg #[.slice a5 t.net.stops.length c5, .slice a5' t.net.lines.length c5', .slice (some ⟨g6, 0, none⟩) t.trips.length c6]) (by simp only [results, Try.results70]; go_simp) rfl ?_
    have hq : ∀ (u0 u1 u2 : Value), Out (w.heap.size + 1) (w.heap.size + 2) w6 (((w6.setCell ⟨w.heap.size + 1, 0, none⟩ u0).setCell ⟨w.heap.size + 1, 1, none⟩ u1).setCell ⟨w.heap.size + 1, 2, none⟩ u2) := fun u0 u1 u2 => (((Out.refl _ _ _).setCell (p := ⟨_, _, none⟩) (by simp) (by simp) _).setCell (p := ⟨_, _, none⟩) (by simp) (by simp) _).setCell (p := ⟨_, _, none⟩) (by simp) (by simp) _
    have hzz := (hq (.slice a5 t.net.stops.length c5) (.slice a5' t.net.lines.length c5') (.slice (some ⟨g6, 0, none⟩) t.trips.length c6)).below.size
    have htr : TripsIn w.heap.size w6.heap.size w6 (.slice (some ⟨g6, 0, none⟩) t.trips.length c6) t.trips := ⟨own_base HO6.out (by omega), fun g hg => by simp [Value.ownBlock] at hg; omega⟩
    have htr2 : TripsIn (w.heap.size + 2) w6.heap.size w6 (.slice (some ⟨g6, 0, none⟩) t.trips.length c6) t.trips := ⟨HO6.out, fun g hg => by simp [Value.ownBlock] at hg; omega⟩
    exact ⟨_, _, _, _, _, _, rfl, ⟨_, _, _, _, _, rfl, hNet.out.keep (hq _ _ _).below.size (fun q h1 _ h3 => (hq _ _ _).block (.inr (by omega)) h3), (htr2.out (hq _ _ _) (.inr (by omega))).base (by omega) (by omega), ⟨by omega, hml.2.1⟩, by omega, hside⟩, hH8.2.2.2⟩
end Go.Proofs.Ytocbgeneabmnmaa

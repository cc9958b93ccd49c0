/-
  PLAIN WORDS on changes between trips, and the CONTRACT of impl.changeOf.
-/
import Derived.Test.YtmbpkdplgfgheaaCatchOf
import Derived.Test.YtmbpkdplgfgheaaWayBest
import Derived.Deep.RegionHeld
namespace Go.Proofs.Ytmbpkdplgfgheaa
open Go.RowKit
set_option linter.unusedVariables false
set_option linter.unusedSimpArgs false

def updC (s : Option (Int × Int)) (A stop : Int) (tb : List Int) : Option Nat → Option (Int × Int)
  | none => s
  | some m => match s with
    | none => some (tb.getD m 0 - A, stop)
    | some (b, q) => if tb.getD m 0 - A < b then some (tb.getD m 0 - A, stop) else some (b, q)
/-- the best change behind the first j places but the first one -/
noncomputable def chF (ws : List WlkD) (N : Nat) (sa ta sb tb : List Int) (L : Nat) : Nat → Option (Int × Int)
  | 0 => none
  | j + 1 => updC (chF ws N sa ta sb tb L j) (ta.getD (j + 1) 0) (sa.getD (j + 1) 0) tb (catF sb tb (wt ws N (sa.getD (j + 1) 0).toNat) (ta.getD (j + 1) 0) L)
def bestV : Option (Int × Int) → Int
  | none => 0
  | some (b, _) => b
def stopV : Option (Int × Int) → Int
  | none => 0
  | some (_, s) => s
theorem rowTimes_wt {n f : Nat} {ws : List WlkD} (hv : WksOk n ws) (hf : f < n) (hn : n ≤ 8) : RowTimes (wt ws n f) := by
  intro s hs
  rw [wt_len hv hf] at hs
  have hl := (firstW_ok hv hf).len
  rw [firstW_wt hv hf, wat_at (by simpa [hl] using hs), List.getElem_map]
  unfold minT
  split
  · exact .inl rfl
  · right
    have h1 : cat (firstW ws n f) s = (firstW ws n f)[s]'(by rw [hl]; exact hs) := cat_at (by rw [hl]; exact hs)
    rw [← h1]
    rcases (firstW_ok hv hf).each s with e | ⟨h2, _⟩
    · rename_i hne; rw [h1] at e; rw [e] at hne; simp at hne
    · have h3 := nodup_len n _ (firstW_nd hv hf s) (fun y hy => h2.all_lt hv hf y hy)
      simp only [stopsOf, List.length_map] at h3
      have h4 := h2.bound hv
      omega
/-- what is asked of a trip's line -/
structure LineOf (n : NetD) (x : TripD) (li : Nat) : Prop where
  line : x.line = li
  lt : li < n.lines.length
  len : (n.lines[li]'lt).runs.length + 1 = (n.lines[li]'lt).stops.length
  le : (n.lines[li]'lt).runs.length ≤ 6
  runs : ∀ r ∈ (n.lines[li]'lt).runs, 1 ≤ r ∧ r ≤ 60
  s0 : 0 ≤ x.start
  s1 : x.start ≤ 1799
  stops : ∀ s ∈ (n.lines[li]'lt).stops, 0 ≤ s ∧ s < (n.stops.length : Int)
theorem sum_bounds : ∀ (rs : List Int), (∀ r ∈ rs, 1 ≤ r ∧ r ≤ 60) → 0 ≤ rs.sum ∧ rs.sum ≤ 60 * rs.length
  | [], _ => by simp
  | r :: rs, h => by
    have h1 := h r (List.mem_cons_self ..)
    have h2 := sum_bounds rs (fun x hx => h x (List.mem_cons_of_mem _ hx))
    simp only [List.sum_cons, List.length_cons]
    push_cast
    omega
theorem tk_bounds {s : Int} {rs : List Int} (hr : ∀ r ∈ rs, 1 ≤ r ∧ r ≤ 60) (hl : rs.length ≤ 6) (h0 : 0 ≤ s) (h1 : s ≤ 1799) (m : Nat) (hm : m < rs.length + 1) : 0 ≤ (tk s rs (rs.length + 1)).getD m 0 ∧ (tk s rs (rs.length + 1)).getD m 0 ≤ 3000 := by
  rw [tk_getD _ _ _ _ hm]
  have h2 := sum_bounds (rs.take m) (fun r h => hr r (List.mem_of_mem_take h))
  have h3 : (rs.take m).length ≤ 6 := by rw [List.length_take]; omega
  omega
theorem setW_ne {w : World} {b b' i o : Nat} {u : Value} (h : b' ≠ b) : (w.setCell ⟨b, i, none⟩ u).cell? ⟨b', o, none⟩ = w.cell? ⟨b', o, none⟩ := by
  unfold World.cell?
  simp only
  rw [Below.heap_setCell _ _ _ _ (fun e => h (by simpa using e))]
theorem keepC8 {w w' : World} {p0 p1 p2 p3 p4 p5 p6 p7 : Addr} {x0 x1 x2 x3 x4 x5 x6 x7 : Value} (hb : Below w.heap.size w w')
    (h : w.cell? p0 = some x0 ∧ w.cell? p1 = some x1 ∧ w.cell? p2 = some x2 ∧ w.cell? p3 = some x3 ∧ w.cell? p4 = some x4 ∧ w.cell? p5 = some x5 ∧ w.cell? p6 = some x6 ∧ w.cell? p7 = some x7) :
    w'.cell? p0 = some x0 ∧ w'.cell? p1 = some x1 ∧ w'.cell? p2 = some x2 ∧ w'.cell? p3 = some x3 ∧ w'.cell? p4 = some x4 ∧ w'.cell? p5 = some x5 ∧ w'.cell? p6 = some x6 ∧ w'.cell? p7 = some x7 := by
  obtain ⟨h0, h1, h2, h3, h4, h5, h6, h7⟩ := h
  exact ⟨bkeep hb h0, bkeep hb h1, bkeep hb h2, bkeep hb h3, bkeep hb h4, bkeep hb h5, bkeep hb h6, bkeep hb h7⟩
theorem set4_ne {w : World} {g b o : Nat} {x0 x1 x2 x3 : Value} (h : b ≠ g) : ((((w.setCell ⟨g, 0, none⟩ x0).setCell ⟨g, 1, none⟩ x1).setCell ⟨g, 2, none⟩ x2).setCell ⟨g, 3, none⟩ x3).cell? ⟨b, o, none⟩ = w.cell? ⟨b, o, none⟩ := by
  rw [setW_ne h, setW_ne h, setW_ne h, setW_ne h]
theorem set4_at {w : World} {g : Nat} {x0 x1 x2 x3 y0 y1 y2 y3 : Value} (h0 : w.cell? ⟨g, 0, none⟩ = some y0) (h1 : w.cell? ⟨g, 1, none⟩ = some y1) (h2 : w.cell? ⟨g, 2, none⟩ = some y2) (h3 : w.cell? ⟨g, 3, none⟩ = some y3) :
    ((((w.setCell ⟨g, 0, none⟩ x0).setCell ⟨g, 1, none⟩ x1).setCell ⟨g, 2, none⟩ x2).setCell ⟨g, 3, none⟩ x3).cell? ⟨g, 3, none⟩ = some x3 :=
  set_same (z := y3) ((set_other (by omega)).trans ((set_other (by omega)).trans ((set_other (by omega)).trans h3)))
theorem conn_ints (id : Int) (st tm : List Int) (r : Option Nat) : ∃ f0 f1 f2 f3 : Int, connV id st tm r = .agg #[.int .i64 f0, .int .i64 f1, .int .i64 f2, .int .i64 f3] ∧ ∀ m, r = some m → f3 = tm.getD m 0 := by
  cases r with
  | none => exact ⟨0, 0, 0, 0, rfl, fun m h => by cases h⟩
  | some m => exact ⟨_, _, _, _, rfl, fun q h => by cases h; rfl⟩

/-- the boxes that a round reads -/
def KeepC (w : World) (n : NetD) (a : Option Addr) (c lb lo c' : Nat) (bi : Int) (lb2 : Nat) (bs0 : Int) (wr : World) : Prop :=
  wr.cell? ⟨w.heap.size, 0, none⟩ = some (.slice a n.stops.length c) ∧ wr.cell? ⟨w.heap.size, 1, none⟩ = some (.slice (some ⟨lb, lo, none⟩) n.lines.length c') ∧ wr.cell? ⟨w.heap.size + 1 + 1, 0, none⟩ = some (.int .i64 bi) ∧ wr.cell? ⟨w.heap.size + 1 + 1, 1, none⟩ = some (.int .i64 (lb2 : Int)) ∧ wr.cell? ⟨w.heap.size + 1 + 1, 2, none⟩ = some (.int .i64 bs0)

theorem KeepC.later {w : World} {n : NetD} {a : Option Addr} {c lb lo c' : Nat} {bi : Int} {lb2 : Nat} {bs0 : Int} {wr w' : World} (h : KeepC w n a c lb lo c' bi lb2 bs0 wr) (hb : Below wr.heap.size wr w') : KeepC w n a c lb lo c' bi lb2 bs0 w' := by
  obtain ⟨h0, h1, h2, h3, h4⟩ := h
  exact ⟨bkeep hb h0, bkeep hb h1, bkeep hb h2, bkeep hb h3, bkeep hb h4⟩

set_option maxRecDepth 100000 in
set_option maxHeartbeats 16000000 in
theorem changeOf_any (nv lv : Value) (n : NetD) (ws : List WlkD) (xa xb : TripD) (la lb2 : Nat) (w : World) (hr : NetAt w nv n) (hlw : WalksAt w lv ws) (hv : WksOk n.stops.length ws) (hn8 : n.stops.length ≤ 8) (ha : LineOf n xa la) (hb : LineOf n xb lb2) (ll l2 : LineD) (hll : n.lines[la]'ha.lt = ll) (hl2 : n.lines[lb2]'hb.lt = l2) (TA TB : List Int) (hTA : tk xa.start ll.runs (ll.runs.length + 1) = TA) (hTB : tk xb.start l2.runs (l2.runs.length + 1) = TB) (res0 : Option (Int × Int)) (hres0 : chF ws n.stops.length ll.stops TA l2.stops TB l2.runs.length ll.runs.length = res0) :
    Calls Try.prog 129 #[nv, lv, tripV xa, tripV xb] w fun e w' => e = .returned (.tuple #[.int .i64 (bestV res0), .int .i64 (stopV res0), .bool res0.isSome]) ∧ Below w.heap.size w w' := by
  have HSt := Lib.hid (fun W (h : Below w.heap.size w W) => stopTimesOf_any nv n xa W (hr.below rfl h) la ha.line ha.lt ha.le ha.runs ha.s0 ha.s1)
  have HWt0 := Lib.hid (fun f (hf : f < n.stops.length) W (h : Below w.heap.size w W) => walkingTimesOf_any nv lv n ws f W (hr.below rfl h) (hlw.below rfl h) hv hn8 hf)
  have HCt0 := Lib.hid (fun f (hf : f < n.stops.length) tt (h0 : 0 ≤ tt) (h1 : tt ≤ 100000) W rv (h : Below w.heap.size w W) (hR : RowAt W rv (ints (wt ws n.stops.length f))) => catchOf_any nv rv n xb (wt ws n.stops.length f) tt W (hr.below rfl h) lb2 hb.line hb.lt hb.len hb.le hb.runs hb.s0 hb.s1 (by rw [wt_len hv hf]; exact hb.stops) hR (rowTimes_wt hv hf hn8) h0 h1 (by rw [wt_len hv hf]; omega))
  have HTb := Lib.hid (fun m (h : m < ll.runs.length + 1) => by have := tk_bounds ha.runs ha.le ha.s0 ha.s1 m (by rw [hll]; exact h); rw [hll, hTA] at this; exact this)
  have HTb2 := Lib.hid (fun m (h : m < l2.runs.length + 1) => by have := tk_bounds hb.runs hb.le hb.s0 hb.s1 m (by rw [hl2]; exact h); rw [hl2, hTB] at this; exact this)
  rw [hll, hTA] at HSt
  rw [hl2, hTB] at HCt0
  have hstl : ll.runs.length + 1 ≤ ll.stops.length := by have := ha.len; rw [hll] at this; omega
  have hstl2 : ll.stops.length ≤ ll.runs.length + 1 := by have := ha.len; rw [hll] at this; omega
  have hrle : ll.runs.length ≤ 6 := by have := ha.le; rw [hll] at this; exact this
  have HStops : Hid (∀ s ∈ ll.stops, 0 ≤ s ∧ s < (n.stops.length : Int)) := by have := ha.stops; rw [hll] at this; exact this
  have htl : TA.length = ll.runs.length + 1 := by rw [← hTA, tk_len]
  have HRes0 := Lib.hid hres0
  obtain ⟨a, c, a', c', rfl, -, -⟩ := net_open hr
  obtain ⟨lvb, lvd, rfl⟩ := WalkS_open hlw
  obtain ⟨lb, lo, s0, s1, r0, r1, rfl, hlb, -, x1, -, hrs, -⟩ := net_line hr la ha.lt
  rw [hll] at x1 hrs
  obtain ⟨_, _, he, hsc, _, HC⟩ := ints_open hrs
  simp at he
  obtain ⟨rfl, rfl⟩ := he
  obtain ⟨sb, so, rfl, hsb, -⟩ := HC.out 0 (by omega)
  have HSc : Hid (∀ m (h : m < ll.stops.length), w.cell? ⟨sb, so + m, none⟩ = some (.int .i64 (ll.stops[m]'h))) := fun m h => by
    obtain ⟨b, off, h1, _, h2⟩ := HC.out m h
    simp at h1
    obtain ⟨rfl, rfl⟩ := h1
    exact h2
  have hla := ha.line
  have hlb2 := hb.line
  have hla1 : (la : Int) < (n.lines.length : Int) := by have := ha.lt; omega
  obtain ⟨ai, al, as0⟩ := xa
  obtain ⟨bi, bl, bs0⟩ := xb
  simp only at hla hlb2
  subst hla
  subst hlb2
  unfold tripV at *
  simp only at *
  clear hr hlw hv ha hb hll hl2 hTA hTB hres0 hrs HC
  go_enter Try.func129, Try.ntmps129
  go_wp2_with fail
  obtain ⟨wx, hwx⟩ : ∃ wx : World, wx = ((w.alloc (.cells #[.slice a n.stops.length c, .slice (some ⟨lb, lo, none⟩) n.lines.length c'] 27)).alloc (.cells #[.int .i64 ai, .int .i64 (la : Int), .int .i64 as0] 87)).alloc (.cells #[.int .i64 bi, .int .i64 (lb2 : Int), .int .i64 bs0] 87) := ⟨_, rfl⟩
  have hbx : Below w.heap.size w wx := by rw [hwx]; exact (((Below.refl _ _).alloc (Nat.le_refl _) _).alloc (by simp) _).alloc (by simp <;> omega) _
  have k0 : wx.cell? ⟨w.heap.size, 0, none⟩ = some (.slice a n.stops.length c) := by rw [hwx]; go_simp
  have k1 : wx.cell? ⟨w.heap.size, 1, none⟩ = some (.slice (some ⟨lb, lo, none⟩) n.lines.length c') := by rw [hwx]; go_simp
  have k2 : wx.cell? ⟨w.heap.size + 1, 0, none⟩ = some (.int .i64 ai) := by rw [hwx]; go_simp
  have k3 : wx.cell? ⟨w.heap.size + 1, 1, none⟩ = some (.int .i64 (la : Int)) := by rw [hwx]; go_simp
  have k4 : wx.cell? ⟨w.heap.size + 1, 2, none⟩ = some (.int .i64 as0) := by rw [hwx]; go_simp
  have k5 : wx.cell? ⟨lb, lo + la * 3 + 1, none⟩ = some (.slice (some ⟨sb, so, none⟩) ll.stops.length s1) := bkeep hbx x1
  have t0 : wx.cell? ⟨w.heap.size + 1 + 1, 0, none⟩ = some (.int .i64 bi) := by rw [hwx]; go_simp
  have t1 : wx.cell? ⟨w.heap.size + 1 + 1, 1, none⟩ = some (.int .i64 (lb2 : Int)) := by rw [hwx]; go_simp
  have t2 : wx.cell? ⟨w.heap.size + 1 + 1, 2, none⟩ = some (.int .i64 bs0) := by rw [hwx]; go_simp
  have hzx : w.heap.size + 1 + 1 < wx.heap.size := by rw [hwx]; simp
  rw [← hwx]
  clear hwx x1
  refine wp_region_held_drew (S := (fun w' => w'.cell? ⟨w.heap.size, 0, none⟩ = some (.slice a n.stops.length c) ∧ w'.cell? ⟨w.heap.size, 1, none⟩ = some (.slice (some ⟨lb, lo, none⟩) n.lines.length c') ∧ w'.cell? ⟨w.heap.size + 1, 0, none⟩ = some (.int .i64 ai) ∧ w'.cell? ⟨w.heap.size + 1, 1, none⟩ = some (.int .i64 (la : Int)) ∧ w'.cell? ⟨w.heap.size + 1, 2, none⟩ = some (.int .i64 as0) ∧ w'.cell? ⟨lb, lo + la * 3 + 1, none⟩ = some (.slice (some ⟨sb, so, none⟩) ll.stops.length s1) ∧ w'.cell? ⟨lb, lo + la * 3 + 1, none⟩ = some (.slice (some ⟨sb, so, none⟩) ll.stops.length s1) ∧ w'.cell? ⟨lb, lo + la * 3 + 1, none⟩ = some (.slice (some ⟨sb, so, none⟩) ll.stops.length s1))) (by kernel_rfl) ?_ (fun hHeld => ?_)
  · exact ⟨k0, k1, k2, k3, k4, k5, k5, k5⟩
  refine wpAnyH_take (i := 0) (v := ?_) (by simp only [List.getElem?_toArray, List.getElem?_cons_zero]; rfl) (by kernel_rfl) (by kernel_rfl) (by kernel_rfl) (by exact fun _ _ _ h => h) (Or.inl ⟨by rfl, ?_⟩) (by assumption) ?_
  rotate_left
  · intro w' hSw; obtain ⟨e0, e1, e2, e3, e4, e5, e6, e7⟩ := hSw
    go_simp; try with_reducible rfl
  try simp only [Act.put, List.setIfInBounds_toArray, List.set_cons_zero, List.set_cons_succ]
  refine wpAnyH_take (i := 1) (v := ?_) (by simp only [List.getElem?_toArray, List.getElem?_cons_succ, List.getElem?_cons_zero]; rfl) (by kernel_rfl) (by kernel_rfl) (by kernel_rfl) (by exact fun _ _ _ h => h) (Or.inl ⟨by rfl, ?_⟩) (by assumption) ?_
  rotate_left
  · intro w' hSw; obtain ⟨e0, e1, e2, e3, e4, e5, e6, e7⟩ := hSw
    go_simp; try with_reducible rfl
  try simp only [Act.put, List.setIfInBounds_toArray, List.set_cons_zero, List.set_cons_succ]
  refine wpAnyH_take (i := 2) (v := ?_) (by simp only [List.getElem?_toArray, List.getElem?_cons_succ, List.getElem?_cons_zero]; rfl) (by kernel_rfl) (by kernel_rfl) (by kernel_rfl) (by exact fun _ _ _ h => h) (Or.inl ⟨by rfl, ?_⟩) (by assumption) ?_
  rotate_left
  · intro w' hSw; obtain ⟨e0, e1, e2, e3, e4, e5, e6, e7⟩ := hSw
    go_simp; try with_reducible rfl
  try simp only [Act.put, List.setIfInBounds_toArray, List.set_cons_zero, List.set_cons_succ]
  refine wpAnyH_take (i := 3) (v := ?_) (by simp only [List.getElem?_toArray, List.getElem?_cons_succ, List.getElem?_cons_zero]; rfl) (by kernel_rfl) (by kernel_rfl) (by kernel_rfl) (by exact fun _ _ _ h => h) (Or.inl ⟨by rfl, ?_⟩) (by assumption) ?_
  rotate_left
  · intro w' hSw; obtain ⟨e0, e1, e2, e3, e4, e5, e6, e7⟩ := hSw
    go_simp; try with_reducible rfl
  try simp only [Act.put, List.setIfInBounds_toArray, List.set_cons_zero, List.set_cons_succ]
  refine wpAnyH_take (i := 4) (v := ?_) (by simp only [List.getElem?_toArray, List.getElem?_cons_succ, List.getElem?_cons_zero]; rfl) (by kernel_rfl) (by kernel_rfl) (by kernel_rfl) (by exact fun _ _ _ h => h) (Or.inl ⟨by rfl, ?_⟩) (by assumption) ?_
  rotate_left
  · intro w' hSw; obtain ⟨e0, e1, e2, e3, e4, e5, e6, e7⟩ := hSw
    go_simp; try with_reducible rfl
  try simp only [Act.put, List.setIfInBounds_toArray, List.set_cons_zero, List.set_cons_succ]
  refine wpAnyH_take (i := 5) (v := ?_) (by simp only [List.getElem?_toArray, List.getElem?_cons_succ, List.getElem?_cons_zero]; rfl) (by kernel_rfl) (by kernel_rfl) (by kernel_rfl) (by exact fun _ _ _ h => h) (Or.inl ⟨by rfl, ?_⟩) (by assumption) ?_
  rotate_left
  · intro w' hSw; obtain ⟨e0, e1, e2, e3, e4, e5, e6, e7⟩ := hSw
    go_simp; try with_reducible rfl
  try simp only [Act.put, List.setIfInBounds_toArray, List.set_cons_zero, List.set_cons_succ]
  refine wpAnyH_take (i := 6) (v := ?_) (by simp only [List.getElem?_toArray, List.getElem?_cons_succ, List.getElem?_cons_zero]; rfl) (by kernel_rfl) (by kernel_rfl) (by kernel_rfl) (by exact fun _ _ _ h => h) (Or.inl ⟨by rfl, ?_⟩) (by assumption) ?_
  rotate_left
  · intro w' hSw; obtain ⟨e0, e1, e2, e3, e4, e5, e6, e7⟩ := hSw
    go_simp; try with_reducible rfl
  try simp only [Act.put, List.setIfInBounds_toArray, List.set_cons_zero, List.set_cons_succ]
  refine wpAnyH_take (i := 7) (v := ?_) (by simp only [List.getElem?_toArray, List.getElem?_cons_succ, List.getElem?_cons_zero]; rfl) (by kernel_rfl) (by kernel_rfl) (by kernel_rfl) (by exact fun _ _ _ h => h) (Or.inl ⟨by rfl, ?_⟩) (by assumption) ?_
  rotate_left
  · intro w' hSw; obtain ⟨e0, e1, e2, e3, e4, e5, e6, e7⟩ := hSw
    go_simp; try with_reducible rfl
  try simp only [Act.put, List.setIfInBounds_toArray, List.set_cons_zero, List.set_cons_succ]
  refine wpAnyH_take (i := 8) (v := ?_) (by simp only [List.getElem?_toArray, List.getElem?_cons_succ, List.getElem?_cons_zero]; rfl) (by kernel_rfl) (by kernel_rfl) (by kernel_rfl) (by exact fun _ _ _ h => h) (Or.inl ⟨by rfl, ?_⟩) (by assumption) ?_
  rotate_left
  · intro w' hSw; obtain ⟨e0, e1, e2, e3, e4, e5, e6, e7⟩ := hSw
    go_simp; try with_reducible rfl
  try simp only [Act.put, List.setIfInBounds_toArray, List.set_cons_zero, List.set_cons_succ]
  refine wpAnyH_ready (rs := [9]) (by kernel_rfl) (by simp) ?_
  refine AllReadyH.cons (by simp only [List.getElem?_toArray, List.getElem?_cons_succ, List.getElem?_cons_zero]; rfl) (fun K hK => ?_) AllReadyH.nil
  go_simp
  go_at_call 174
  refine (HSt.out _ hbx.drew).mono ?_
  rintro e w2 ⟨⟨v2, rfl, ho2⟩, hb2⟩
  have hbd : Below wx.heap.size wx w2 := (Below.refl _ _).drew.trans hb2
  go_wp2_with fail
  refine hK.out _ _ (keepC8 hbd ⟨k0, k1, k2, k3, k4, k5, k5, k5⟩) (fun hH9 => ?_)
  clear hK K
  try simp only [Act.put, List.setIfInBounds_toArray, List.set_cons_zero, List.set_cons_succ]
  refine wpAnyH_take (i := 10) (v := ?_) (by simp only [List.getElem?_toArray, List.getElem?_cons_succ, List.getElem?_cons_zero]; rfl) (by kernel_rfl) (by kernel_rfl) (by kernel_rfl) (by exact fun _ _ _ h => h) (Or.inl ⟨by rfl, ?_⟩) (by assumption) ?_
  rotate_left
  · intro w' hSw; go_simp; try with_reducible rfl
  try simp only [Act.put, List.setIfInBounds_toArray, List.set_cons_zero, List.set_cons_succ]
  refine wpAnyH_take (i := 11) (v := ?_) (by simp only [List.getElem?_toArray, List.getElem?_cons_succ, List.getElem?_cons_zero]; rfl) (by kernel_rfl) (by kernel_rfl) (by kernel_rfl) (by exact fun _ _ _ h => h) (Or.inl ⟨by rfl, ?_⟩) (by assumption) ?_
  rotate_left
  · intro w' hSw; go_simp; try with_reducible rfl
  try simp only [Act.put, List.setIfInBounds_toArray, List.set_cons_zero, List.set_cons_succ]
  refine wpAnyH_done (by kernel_rfl) ?_ _
  obtain ⟨va, vc, rfl⟩ := own_shape ho2
  obtain ⟨g3, rfl, hg3w, hg3, hT3⟩ := own_cells ho2 (by omega) htl
  have HK0 : Hid (KeepC w n a c lb lo c' bi lb2 bs0 w2) := ⟨bkeep hbd k0, bkeep hbd k1, bkeep hbd t0, bkeep hbd t1, bkeep hbd t2⟩
  have HT0 : Hid (∀ q, q < ll.runs.length + 1 → w2.cell? ⟨g3, q, none⟩ = some (.int .i64 (wat TA q))) := hT3
  have HB0 : Hid (Below w.heap.size w w2) := hbx.trans (hbd.mono hbx.size)
  clear hT3 ho2 hb2 hbd k0 k1 k2 k3 k4 k5 t0 t1 t2 hbx
  go_wp2_with fail
  go_loopw [11, 12, 13, 16] (fun o1 o2 o3 i wr => ∃ (p : Nat) (s : Option (Int × Int)), p ≤ ll.runs.length ∧ i = .int .i64 ((p + 1 : Nat) : Int) ∧ Hid (chF ws n.stops.length ll.stops TA l2.stops TB l2.runs.length p = s) ∧ o1 = .int .i64 (bestV s) ∧ o2 = .int .i64 (stopV s) ∧ o3 = .bool s.isSome ∧ Hid (KeepC w n a c lb lo c' bi lb2 bs0 wr) ∧ Hid (∀ q, q < ll.runs.length + 1 → wr.cell? ⟨g3, q, none⟩ = some (.int .i64 (wat TA q))) ∧ Hid (Below w.heap.size w wr))
    (fun _ _ _ i _ => ll.runs.length + 1 - (RowKit.intOf i).toNat)
  case atStart => exact ⟨0, none, Nat.zero_le _, rfl, rfl, rfl, rfl, rfl, HK0, HT0, HB0⟩
  case round =>
    clear HK0 HT0 HB0
    obtain ⟨p, s, hp, rfl, HS, rfl, rfl, rfl, HK, HTm, HB⟩ := hrel
    by_cases hlt : p < ll.runs.length
    · have hp1 : ((p + 1 : Nat) : Int) < (ll.stops.length : Int) := by omega
      have hp2 : (p : Int) + 1 < (ll.stops.length : Int) := by omega
      have hp3 : (p : Int) + 1 < ((ll.runs.length + 1 : Nat) : Int) := by omega
      have hps : p + 1 < ll.stops.length := by omega
      have hp0 : (0 : Int) ≤ (p : Int) + 1 := by omega
      have hst := HStops.out ll.stops[p + 1] (List.getElem_mem hps)
      have k5 := bkeep HB.out (HSc.out (p + 1) hps)
      have hTq := HTm.out (p + 1) (by omega)
      obtain ⟨sm, hsm⟩ := Int.eq_ofNat_of_zero_le hst.1
      have hsn : sm < n.stops.length := by omega
      rw [hsm] at k5
      have hgs : ll.stops.getD (p + 1) 0 = (sm : Int) := by rw [← hsm]; simp [hps]
      have hgt : TA.getD (p + 1) 0 = wat TA (p + 1) := by rw [wat_at (by omega)]; simp [show p + 1 < TA.length by omega]
      have hTbd := HTb.out (p + 1) (by omega)
      rw [hgt] at hTbd
      have HCh : Hid (chF ws n.stops.length ll.stops TA l2.stops TB l2.runs.length (p + 1) = updC s (wat TA (p + 1)) (sm : Int) TB (catF l2.stops TB (wt ws n.stops.length sm) (wat TA (p + 1)) l2.runs.length)) := by
        show _ = _
        have h1 := HS.out
        rw [chF, h1, hgs, hgt, Int.toNat_natCast]
      have HWt := Lib.hid (HWt0.out sm hsn)
      have HCt := Lib.hid (fun W rv h hR => HCt0.out sm hsn (wat TA (p + 1)) hTbd.1 (by omega) W rv h hR)
      obtain ⟨k0, k1, k2, k3, k4⟩ := HK.out
      have hwz := HB.out.size
      have hz1 : w.heap.size + 1 + 1 < wr.heap.size := World.block_lt_of_cell? _ _ k2
      have hsbw : sb < wr.heap.size := Nat.lt_of_lt_of_le hsb hwz
      obtain ⟨res, hres⟩ : ∃ res, catF l2.stops TB (wt ws n.stops.length sm) (wat TA (p + 1)) l2.runs.length = res := ⟨_, rfl⟩
      have hqb : ∀ m, res = some m → 0 ≤ TB.getD m 0 ∧ TB.getD m 0 ≤ 3000 := fun m h => HTb2.out m (by rw [h] at hres; have := (catF_ok hres).2; omega)
      rw [hres] at HCh HCt
      obtain ⟨f0, f1, f2, f3, hcv, hcvm⟩ := conn_ints bi l2.stops TB res
      have hf3 : -100000 ≤ f3 ∧ f3 ≤ 100000 := by
        cases res with
        | none =>
          have h := hcv
          simp only [connV, Value.agg.injEq] at h
          simp at h
          omega
        | some m => rw [hcvm m rfl]; have := hqb m rfl; omega
      generalize wat TA (p + 1) = A at *
      have HUpd : Hid (res.isSome = true → (s.isSome = false ∨ f3 - A < bestV s) → chF ws n.stops.length ll.stops TA l2.stops TB l2.runs.length (p + 1) = some (f3 - A, (sm : Int))) := fun h1 h2 => by
        rw [HCh.out]
        cases res with
        | none => cases h1
        | some m =>
          have e := hcvm m rfl
          cases s with
          | none => simp only [updC, e]
          | some bq =>
            obtain ⟨b, q⟩ := bq
            simp only [bestV, Option.isSome_some, Bool.true_eq_false, false_or] at h2
            simp only [updC]; rw [if_pos (by rw [← e]; exact h2), e]
      have HSame : Hid (res.isSome = false ∨ (s.isSome = true ∧ ¬ f3 - A < bestV s) → chF ws n.stops.length ll.stops TA l2.stops TB l2.runs.length (p + 1) = chF ws n.stops.length ll.stops TA l2.stops TB l2.runs.length p) := fun h => by
        rw [HCh.out, HS.out]
        cases res with
        | none => rfl
        | some m =>
          have e := hcvm m rfl
          rcases h with h | ⟨h1, h2⟩
          · cases h
          · cases s with
            | none => cases h1
            | some bq =>
              obtain ⟨b, q⟩ := bq
              simp only [updC]; rw [if_neg (by rw [← e]; exact h2)]
      have hww : IntKind.i64.wrap (f3 - A) = f3 - A := IntWalk.i64_in _ (by omega)
      clear hst hsm hgs hgt HCh hres hqb hcvm HWt0 HCt0
      go_wp2_with fail
      refine wp_region_held_drew (S := (fun w' => w'.cell? ⟨w.heap.size, 0, none⟩ = some (.slice a n.stops.length c) ∧ w'.cell? ⟨w.heap.size, 1, none⟩ = some (.slice (some ⟨lb, lo, none⟩) n.lines.length c') ∧ w'.cell? ⟨w.heap.size + 1 + 1, 0, none⟩ = some (.int .i64 bi) ∧ w'.cell? ⟨w.heap.size + 1 + 1, 1, none⟩ = some (.int .i64 (lb2 : Int)) ∧ w'.cell? ⟨w.heap.size + 1 + 1, 2, none⟩ = some (.int .i64 bs0) ∧ w'.cell? ⟨sb, so + (p + 1), none⟩ = some (.int .i64 (sm : Int)) ∧ w'.cell? ⟨sb, so + (p + 1), none⟩ = some (.int .i64 (sm : Int)) ∧ w'.cell? ⟨sb, so + (p + 1), none⟩ = some (.int .i64 (sm : Int)))) (by kernel_rfl) ?_ (fun hHeld => ?_)
      · exact ⟨k0, k1, k2, k3, k4, k5, k5, k5⟩
      refine wpAnyH_take (i := 0) (v := ?_) (by simp only [List.getElem?_toArray, List.getElem?_cons_zero]; rfl) (by kernel_rfl) (by kernel_rfl) (by kernel_rfl) (by exact fun _ _ _ h => h) (Or.inl ⟨by rfl, ?_⟩) (by assumption) ?_
      rotate_left
      · intro w' hSw; obtain ⟨e0, e1, e2, e3, e4, e5, e6, e7⟩ := hSw
        go_simp; try with_reducible rfl
      try simp only [Act.put, List.setIfInBounds_toArray, List.set_cons_zero, List.set_cons_succ]
      refine wpAnyH_take (i := 1) (v := ?_) (by simp only [List.getElem?_toArray, List.getElem?_cons_succ, List.getElem?_cons_zero]; rfl) (by kernel_rfl) (by kernel_rfl) (by kernel_rfl) (by exact fun _ _ _ h => h) (Or.inl ⟨by rfl, ?_⟩) (by assumption) ?_
      rotate_left
      · intro w' hSw; obtain ⟨e0, e1, e2, e3, e4, e5, e6, e7⟩ := hSw
        go_simp; try with_reducible rfl
      try simp only [Act.put, List.setIfInBounds_toArray, List.set_cons_zero, List.set_cons_succ]
      refine wpAnyH_take (i := 2) (v := ?_) (by simp only [List.getElem?_toArray, List.getElem?_cons_succ, List.getElem?_cons_zero]; rfl) (by kernel_rfl) (by kernel_rfl) (by kernel_rfl) (by exact fun _ _ _ h => h) (Or.inl ⟨by rfl, ?_⟩) (by assumption) ?_
      rotate_left
      · intro w' hSw; obtain ⟨e0, e1, e2, e3, e4, e5, e6, e7⟩ := hSw
        go_simp; try with_reducible rfl
      try simp only [Act.put, List.setIfInBounds_toArray, List.set_cons_zero, List.set_cons_succ]
      refine wpAnyH_take (i := 3) (v := ?_) (by simp only [List.getElem?_toArray, List.getElem?_cons_succ, List.getElem?_cons_zero]; rfl) (by kernel_rfl) (by kernel_rfl) (by kernel_rfl) (by exact fun _ _ _ h => h) (Or.inl ⟨by rfl, ?_⟩) (by assumption) ?_
      rotate_left
      · intro w' hSw; obtain ⟨e0, e1, e2, e3, e4, e5, e6, e7⟩ := hSw
        go_simp; try with_reducible rfl
      try simp only [Act.put, List.setIfInBounds_toArray, List.set_cons_zero, List.set_cons_succ]
      refine wpAnyH_take (i := 4) (v := ?_) (by simp only [List.getElem?_toArray, List.getElem?_cons_succ, List.getElem?_cons_zero]; rfl) (by kernel_rfl) (by kernel_rfl) (by kernel_rfl) (by exact fun _ _ _ h => h) (Or.inl ⟨by rfl, ?_⟩) (by assumption) ?_
      rotate_left
      · intro w' hSw; obtain ⟨e0, e1, e2, e3, e4, e5, e6, e7⟩ := hSw
        go_simp; try with_reducible rfl
      try simp only [Act.put, List.setIfInBounds_toArray, List.set_cons_zero, List.set_cons_succ]
      refine wpAnyH_take (i := 5) (v := ?_) (by simp only [List.getElem?_toArray, List.getElem?_cons_succ, List.getElem?_cons_zero]; rfl) (by kernel_rfl) (by kernel_rfl) (by kernel_rfl) (by exact fun _ _ _ h => h) (Or.inl ⟨by rfl, ?_⟩) (by assumption) ?_
      rotate_left
      · intro w' hSw; obtain ⟨e0, e1, e2, e3, e4, e5, e6, e7⟩ := hSw
        go_simp; try with_reducible rfl
      try simp only [Act.put, List.setIfInBounds_toArray, List.set_cons_zero, List.set_cons_succ]
      refine wpAnyH_take (i := 6) (v := ?_) (by simp only [List.getElem?_toArray, List.getElem?_cons_succ, List.getElem?_cons_zero]; rfl) (by kernel_rfl) (by kernel_rfl) (by kernel_rfl) (by exact fun _ _ _ h => h) (Or.inl ⟨by rfl, ?_⟩) (by assumption) ?_
      rotate_left
      · intro w' hSw; obtain ⟨e0, e1, e2, e3, e4, e5, e6, e7⟩ := hSw
        go_simp; try with_reducible rfl
      try simp only [Act.put, List.setIfInBounds_toArray, List.set_cons_zero, List.set_cons_succ]
      refine wpAnyH_take (i := 7) (v := ?_) (by simp only [List.getElem?_toArray, List.getElem?_cons_succ, List.getElem?_cons_zero]; rfl) (by kernel_rfl) (by kernel_rfl) (by kernel_rfl) (by exact fun _ _ _ h => h) (Or.inl ⟨by rfl, ?_⟩) (by assumption) ?_
      rotate_left
      · intro w' hSw; obtain ⟨e0, e1, e2, e3, e4, e5, e6, e7⟩ := hSw
        go_simp; try with_reducible rfl
      try simp only [Act.put, List.setIfInBounds_toArray, List.set_cons_zero, List.set_cons_succ]
      refine wpAnyH_take (i := 9) (v := ?_) (by simp only [List.getElem?_toArray, List.getElem?_cons_succ, List.getElem?_cons_zero]; rfl) (by kernel_rfl) (by kernel_rfl) (by kernel_rfl) (by exact fun _ _ _ h => h) (Or.inl ⟨by rfl, ?_⟩) (by assumption) ?_
      rotate_left
      · intro w' hSw; obtain ⟨e0, e1, e2, e3, e4, e5, e6, e7⟩ := hSw
        go_simp; try with_reducible rfl
      try simp only [Act.put, List.setIfInBounds_toArray, List.set_cons_zero, List.set_cons_succ]
      refine wpAnyH_ready (rs := [8, 14]) (by kernel_rfl) (by simp) ?_
      refine AllReadyH.cons (by simp only [List.getElem?_toArray, List.getElem?_cons_succ, List.getElem?_cons_zero]; rfl) (fun K hK => ?_) (AllReadyH.cons (by simp only [List.getElem?_toArray, List.getElem?_cons_succ, List.getElem?_cons_zero]; rfl) (fun K hK => ?_) AllReadyH.nil)
      · go_simp
        go_at_call 105
        refine (HWt.out _ (HB.out.trans (((Below.refl wr.heap.size wr)).drew.mono HB.out.size))).mono ?_
        rintro e wq ⟨⟨ra, rc, rfl, hor⟩, hbq⟩
        have hbq2 : Below (wr).heap.size (wr) wq := (Below.refl _ _).drew.trans hbq
        have HQq : Hid (Below wr.heap.size wr wq) := ((Below.refl wr.heap.size wr)).trans (hbq2.mono ((Below.refl wr.heap.size wr)).size)
        have HRw := Lib.hid (rowAt_own hor)
        have hSq := keepC8 hbq2 (⟨k0, k1, k2, k3, k4, k5, k5, k5⟩)
        go_wp2_with fail
        refine hK.out _ _ hSq (fun hH8 => ?_)
        clear hK K hbq hor
        try simp only [Act.put, List.setIfInBounds_toArray, List.set_cons_zero, List.set_cons_succ]
        refine wpAnyH_ready (rs := [10, 14]) (by kernel_rfl) (by simp) ?_
        refine AllReadyH.cons (by simp only [List.getElem?_toArray, List.getElem?_cons_succ, List.getElem?_cons_zero]; rfl) (fun K hK => ?_) (AllReadyH.cons (by simp only [List.getElem?_toArray, List.getElem?_cons_succ, List.getElem?_cons_zero]; rfl) (fun K hK => ?_) AllReadyH.nil)
        · go_simp
          go_at_call 115
          refine (HCt.out _ _ (HB.out.trans ((HQq.out).mono HB.out.size)) (HRw.out)).mono ?_
          rintro e wk ⟨rfl, hbk⟩
          rw [hcv]
          have HQk : Hid (Below wr.heap.size wr wk) := (HQq.out).trans (hbk.mono (HQq.out).size)
          have hSk := keepC8 hbk (hSq)
          go_wp2_with fail
          refine hK.out _ _ hSk (fun hH10 => ?_)
          clear hK K hbk
          try simp only [Act.put, List.setIfInBounds_toArray, List.set_cons_zero, List.set_cons_succ]
          refine wpAnyH_take (i := 11) (v := ?_) (by simp only [List.getElem?_toArray, List.getElem?_cons_succ, List.getElem?_cons_zero]; rfl) (by kernel_rfl) (by kernel_rfl) (by kernel_rfl) (by exact fun _ _ _ h => h) (Or.inl ⟨by rfl, ?_⟩) (by assumption) ?_
          rotate_left
          · intro w' hSw; go_simp; try with_reducible rfl
          try simp only [Act.put, List.setIfInBounds_toArray, List.set_cons_zero, List.set_cons_succ]
          refine wpAnyH_take (i := 12) (v := ?_) (by simp only [List.getElem?_toArray, List.getElem?_cons_succ, List.getElem?_cons_zero]; rfl) (by kernel_rfl) (by kernel_rfl) (by kernel_rfl) (by exact fun _ _ _ h => h) (Or.inl ⟨by rfl, ?_⟩) (by assumption) ?_
          rotate_left
          · intro w' hSw; go_simp; try with_reducible rfl
          try simp only [Act.put, List.setIfInBounds_toArray, List.set_cons_zero, List.set_cons_succ]
          refine wpAnyH_take (i := 13) (v := ?_) (by simp only [List.getElem?_toArray, List.getElem?_cons_succ, List.getElem?_cons_zero]; rfl) (by kernel_rfl) (by kernel_rfl) (by kernel_rfl) (by exact fun _ _ _ h => h) (Or.inl ⟨by rfl, ?_⟩) (by assumption) ?_
          rotate_left
          · intro w' hSw; go_simp; try with_reducible rfl
          try simp only [Act.put, List.setIfInBounds_toArray, List.set_cons_zero, List.set_cons_succ]
          refine wpAnyH_ready (rs := [14]) (by kernel_rfl) (by simp) ?_
          refine AllReadyH.cons (by simp only [List.getElem?_toArray, List.getElem?_cons_succ, List.getElem?_cons_zero]; rfl) (fun K hK => ?_) AllReadyH.nil
          go_simp
          refine hK.out _ _ (keepC8 ((Below.refl _ _).alloc (Nat.le_refl _) (.cells #[.int .i64 0, .int .i64 0, .int .i64 0, .int .i64 0] 66)) (hSk)) (fun hH14 => ?_)
          clear hK K
          try simp only [Act.put, List.setIfInBounds_toArray, List.set_cons_zero, List.set_cons_succ]
          refine wpAnyH_ready (rs := [15]) (by kernel_rfl) (by simp) ?_
          refine AllReadyH.cons (by simp only [List.getElem?_toArray, List.getElem?_cons_succ, List.getElem?_cons_zero]; rfl) (fun K hK => ?_) AllReadyH.nil
          obtain ⟨wv, hwv⟩ : ∃ wv : World, wv = ((wk).alloc (.cells #[.int .i64 0, .int .i64 0, .int .i64 0, .int .i64 0] 66)) := ⟨_, rfl⟩
          obtain ⟨gb, hgb⟩ : ∃ gb : Nat, gb = (wk).heap.size := ⟨_, rfl⟩
          have kv : Below (wk).heap.size (wk) wv := by rw [hwv]; exact ((Below.refl _ _).alloc (Nat.le_refl _) (.cells #[.int .i64 0, .int .i64 0, .int .i64 0, .int .i64 0] 66))
          have HQv : Hid (Below wr.heap.size wr wv) := (HQk.out).trans (kv.mono (HQk.out).size)
          have hSv := keepC8 kv (hSk)
          have bv0 : wv.cell? ⟨gb, 0, none⟩ = some (.int .i64 0) := by rw [hwv, hgb]; go_simp
          have bv1 : wv.cell? ⟨gb, 1, none⟩ = some (.int .i64 0) := by rw [hwv, hgb]; go_simp
          have bv2 : wv.cell? ⟨gb, 2, none⟩ = some (.int .i64 0) := by rw [hwv, hgb]; go_simp
          have bv3 : wv.cell? ⟨gb, 3, none⟩ = some (.int .i64 0) := by rw [hwv, hgb]; go_simp
          have hfv : ∀ o, wv.frozen? ⟨gb, o, none⟩ = false := fun o => by rw [hwv, hgb]; go_simp
          have hgw : wr.heap.size ≤ gb := by rw [hgb]; exact (HQk.out).size
          rw [← hwv]
          rw [← hgb]
          clear hwv hgb
          go_simp
          obtain ⟨wz, hwz⟩ : ∃ wz : World, wz = ((((wv).setCell ⟨gb, 0, none⟩ (.int .i64 f0)).setCell ⟨gb, 1, none⟩ (.int .i64 f1)).setCell ⟨gb, 2, none⟩ (.int .i64 f2)).setCell ⟨gb, 3, none⟩ (.int .i64 f3) := ⟨_, rfl⟩
          have hne0 : w.heap.size ≠ gb := by omega
          have hne2 : w.heap.size + 1 + 1 ≠ gb := by omega
          have hnes : sb ≠ gb := by omega
          have hSz : wz.cell? ⟨w.heap.size, 0, none⟩ = some (.slice a n.stops.length c) ∧ wz.cell? ⟨w.heap.size, 1, none⟩ = some (.slice (some ⟨lb, lo, none⟩) n.lines.length c') ∧ wz.cell? ⟨w.heap.size + 1 + 1, 0, none⟩ = some (.int .i64 bi) ∧ wz.cell? ⟨w.heap.size + 1 + 1, 1, none⟩ = some (.int .i64 (lb2 : Int)) ∧ wz.cell? ⟨w.heap.size + 1 + 1, 2, none⟩ = some (.int .i64 bs0) ∧ wz.cell? ⟨sb, so + (p + 1), none⟩ = some (.int .i64 (sm : Int)) ∧ wz.cell? ⟨sb, so + (p + 1), none⟩ = some (.int .i64 (sm : Int)) ∧ wz.cell? ⟨sb, so + (p + 1), none⟩ = some (.int .i64 (sm : Int)) := by
            rw [hwz]
            exact ⟨(set4_ne hne0).trans (hSv).1, (set4_ne hne0).trans (hSv).2.1, (set4_ne hne2).trans (hSv).2.2.1, (set4_ne hne2).trans (hSv).2.2.2.1, (set4_ne hne2).trans (hSv).2.2.2.2.1, (set4_ne hnes).trans (hSv).2.2.2.2.2.1, (set4_ne hnes).trans (hSv).2.2.2.2.2.1, (set4_ne hnes).trans (hSv).2.2.2.2.2.1⟩
          have z3 : wz.cell? ⟨gb, 3, none⟩ = some (.int .i64 f3) := by rw [hwz]; exact set4_at bv0 bv1 bv2 bv3
          have HBz : Hid (Below wr.heap.size wr wz) := by
            show Below _ _ _
            rw [hwz]
            exact ((((HQv.out).setCell (p := ⟨gb, 0, none⟩) hgw _).setCell (p := ⟨gb, 1, none⟩) hgw _).setCell (p := ⟨gb, 2, none⟩) hgw _).setCell (p := ⟨gb, 3, none⟩) hgw _
          rw [← hwz]
          clear hwz
          refine hK.out _ _ hSz (fun hH15 => ?_)
          clear hK K
          try simp only [Act.put, List.setIfInBounds_toArray, List.set_cons_zero, List.set_cons_succ]
          refine wpAnyH_take (i := 16) (v := ?_) (by simp only [List.getElem?_toArray, List.getElem?_cons_succ, List.getElem?_cons_zero]; rfl) (by kernel_rfl) (by kernel_rfl) (by kernel_rfl) (by exact fun _ _ _ h => h) (Or.inl ⟨by rfl, ?_⟩) (by assumption) ?_
          rotate_left
          · intro w' hSw; go_simp; try with_reducible rfl
          try simp only [Act.put, List.setIfInBounds_toArray, List.set_cons_zero, List.set_cons_succ]
          refine wpAnyH_done (by kernel_rfl) ?_ _
          obtain ⟨k0, k1, k2, k3, k4, -, -, -⟩ := hSz
          have hzw := HBz.out.size
          have HBn : Hid (Below w.heap.size w wz) := HB.out.trans (HBz.out.mono HB.out.size)
          have HTn : Hid (∀ q, q < ll.runs.length + 1 → wz.cell? ⟨g3, q, none⟩ = some (.int .i64 (wat TA q))) := fun q hq => bkeep HBz.out (HTm.out q hq)
          have HKn : Hid (KeepC w n a c lb lo c' bi lb2 bs0 wz) := ⟨k0, k1, k2, k3, k4⟩
          have HKd : Hid (∀ m, KeepC w n a c lb lo c' bi lb2 bs0 (wz.drewN m)) := fun m => HKn.out.later (below_drewN (Below.refl _ _) m)
          have HTd : Hid (∀ m q, q < ll.runs.length + 1 → (wz.drewN m).cell? ⟨g3, q, none⟩ = some (.int .i64 (wat TA q))) := fun m q hq => bkeep (below_drewN (Below.refl _ _) m) (HTn.out q hq)
          have c5 : wz.cell? ⟨sb, so + (p + 1), none⟩ = some (.int .i64 (sm : Int)) := bkeep HBz.out k5
          clear HQq HRw hSq HQk hSk HTm HK k0 k1 k2 k3 k4 k5 HWt HCt hcv
          by_cases hok : res.isSome = true
          · by_cases hfd : s.isSome = true
            · by_cases hlt2 : f3 - A < bestV s
              · have hdl : decide (f3 - A < bestV s) = true := decide_eq_true hlt2
                have HN := Lib.hid (HUpd.out hok (.inr hlt2))
                clear HUpd HSame hlt2
                go_wp2_with fail
                go_quiet (fail)
                go_wp2_with fail
                go_roundw
                case rel => exact ⟨p + 1, some (f3 - A, (sm : Int)), by omega, by go_num, HN, rfl, rfl, rfl, HKd.out _, HTd.out _, below_drewN HBn.out _⟩
                case measure => simp [RowKit.intOf]; omega
              · have hdl : decide (f3 - A < bestV s) = false := decide_eq_false hlt2
                have HN := Lib.hid (HSame.out (.inr ⟨hfd, by omega⟩))
                clear HUpd HSame hlt2
                go_wp2_with fail
                go_roundw
                case rel => exact ⟨p + 1, s, by omega, by go_num, HN.out.trans HS.out, rfl, rfl, (by first | rfl | rw [hfd]), HKn, HTn, HBn⟩
                case measure => simp [RowKit.intOf]; omega
            · have hfd : s.isSome = false := by simpa using hfd
              have HN := Lib.hid (HUpd.out hok (.inl hfd))
              clear HUpd HSame
              go_wp2_with fail
              go_quiet (fail)
              go_wp2_with fail
              go_roundw
              case rel => exact ⟨p + 1, some (f3 - A, (sm : Int)), by omega, by go_num, HN, rfl, rfl, rfl, HKd.out _, HTd.out _, below_drewN HBn.out _⟩
              case measure => simp [RowKit.intOf]; omega
          · have hok : res.isSome = false := by simpa using hok
            have HN := Lib.hid (HSame.out (.inl hok))
            clear HUpd HSame
            go_wp2_with fail
            go_roundw
            case rel => exact ⟨p + 1, s, by omega, by go_num, HN.out.trans HS.out, rfl, rfl, (by first | rfl | rw [hfd]), HKn, HTn, HBn⟩
            case measure => simp [RowKit.intOf]; omega
        · go_simp
          refine hK.out _ _ (keepC8 ((Below.refl _ _).alloc (Nat.le_refl _) (.cells #[.int .i64 0, .int .i64 0, .int .i64 0, .int .i64 0] 66)) (hSq)) (fun hH14 => ?_)
          clear hK K
          try simp only [Act.put, List.setIfInBounds_toArray, List.set_cons_zero, List.set_cons_succ]
          refine wpAnyH_ready (rs := [10]) (by kernel_rfl) (by simp) ?_
          refine AllReadyH.cons (by simp only [List.getElem?_toArray, List.getElem?_cons_succ, List.getElem?_cons_zero]; rfl) (fun K hK => ?_) AllReadyH.nil
          go_simp
          obtain ⟨wv, hwv⟩ : ∃ wv : World, wv = ((wq).alloc (.cells #[.int .i64 0, .int .i64 0, .int .i64 0, .int .i64 0] 66)) := ⟨_, rfl⟩
          obtain ⟨gb, hgb⟩ : ∃ gb : Nat, gb = (wq).heap.size := ⟨_, rfl⟩
          have kv : Below (wq).heap.size (wq) wv := by rw [hwv]; exact ((Below.refl _ _).alloc (Nat.le_refl _) (.cells #[.int .i64 0, .int .i64 0, .int .i64 0, .int .i64 0] 66))
          have HQv : Hid (Below wr.heap.size wr wv) := (HQq.out).trans (kv.mono (HQq.out).size)
          have hSv := keepC8 kv (hSq)
          have bv0 : wv.cell? ⟨gb, 0, none⟩ = some (.int .i64 0) := by rw [hwv, hgb]; go_simp
          have bv1 : wv.cell? ⟨gb, 1, none⟩ = some (.int .i64 0) := by rw [hwv, hgb]; go_simp
          have bv2 : wv.cell? ⟨gb, 2, none⟩ = some (.int .i64 0) := by rw [hwv, hgb]; go_simp
          have bv3 : wv.cell? ⟨gb, 3, none⟩ = some (.int .i64 0) := by rw [hwv, hgb]; go_simp
          have hfv : ∀ o, wv.frozen? ⟨gb, o, none⟩ = false := fun o => by rw [hwv, hgb]; go_simp
          have hgw : wr.heap.size ≤ gb := by rw [hgb]; exact (HQq.out).size
          rw [← hwv]
          rw [← hgb]
          clear hwv hgb
          go_at_call 115
          refine (HCt.out _ _ (HB.out.trans ((HQv.out).mono HB.out.size)) (HRw.out.below rfl kv)).mono ?_
          rintro e wk ⟨rfl, hbk⟩
          rw [hcv]
          have HQk : Hid (Below wr.heap.size wr wk) := (HQv.out).trans (hbk.mono (HQv.out).size)
          have hSk := keepC8 hbk (hSv)
          have bk0 : wk.cell? ⟨gb, 0, none⟩ = some (.int .i64 0) := bkeep hbk bv0
          have bk1 : wk.cell? ⟨gb, 1, none⟩ = some (.int .i64 0) := bkeep hbk bv1
          have bk2 : wk.cell? ⟨gb, 2, none⟩ = some (.int .i64 0) := bkeep hbk bv2
          have bk3 : wk.cell? ⟨gb, 3, none⟩ = some (.int .i64 0) := bkeep hbk bv3
          have hfk : ∀ o, wk.frozen? ⟨gb, o, none⟩ = false := fun o => fkeep hbk (show gb < _ from World.block_lt_of_cell? _ _ bv0) (hfv o)
          go_wp2_with fail
          refine hK.out _ _ hSk (fun hH10 => ?_)
          clear hK K hbk
          try simp only [Act.put, List.setIfInBounds_toArray, List.set_cons_zero, List.set_cons_succ]
          refine wpAnyH_take (i := 11) (v := ?_) (by simp only [List.getElem?_toArray, List.getElem?_cons_succ, List.getElem?_cons_zero]; rfl) (by kernel_rfl) (by kernel_rfl) (by kernel_rfl) (by exact fun _ _ _ h => h) (Or.inl ⟨by rfl, ?_⟩) (by assumption) ?_
          rotate_left
          · intro w' hSw; go_simp; try with_reducible rfl
          try simp only [Act.put, List.setIfInBounds_toArray, List.set_cons_zero, List.set_cons_succ]
          refine wpAnyH_take (i := 12) (v := ?_) (by simp only [List.getElem?_toArray, List.getElem?_cons_succ, List.getElem?_cons_zero]; rfl) (by kernel_rfl) (by kernel_rfl) (by kernel_rfl) (by exact fun _ _ _ h => h) (Or.inl ⟨by rfl, ?_⟩) (by assumption) ?_
          rotate_left
          · intro w' hSw; go_simp; try with_reducible rfl
          try simp only [Act.put, List.setIfInBounds_toArray, List.set_cons_zero, List.set_cons_succ]
          refine wpAnyH_take (i := 13) (v := ?_) (by simp only [List.getElem?_toArray, List.getElem?_cons_succ, List.getElem?_cons_zero]; rfl) (by kernel_rfl) (by kernel_rfl) (by kernel_rfl) (by exact fun _ _ _ h => h) (Or.inl ⟨by rfl, ?_⟩) (by assumption) ?_
          rotate_left
          · intro w' hSw; go_simp; try with_reducible rfl
          try simp only [Act.put, List.setIfInBounds_toArray, List.set_cons_zero, List.set_cons_succ]
          refine wpAnyH_ready (rs := [15]) (by kernel_rfl) (by simp) ?_
          refine AllReadyH.cons (by simp only [List.getElem?_toArray, List.getElem?_cons_succ, List.getElem?_cons_zero]; rfl) (fun K hK => ?_) AllReadyH.nil
          go_simp
          obtain ⟨wz, hwz⟩ : ∃ wz : World, wz = ((((wk).setCell ⟨gb, 0, none⟩ (.int .i64 f0)).setCell ⟨gb, 1, none⟩ (.int .i64 f1)).setCell ⟨gb, 2, none⟩ (.int .i64 f2)).setCell ⟨gb, 3, none⟩ (.int .i64 f3) := ⟨_, rfl⟩
          have hne0 : w.heap.size ≠ gb := by omega
          have hne2 : w.heap.size + 1 + 1 ≠ gb := by omega
          have hnes : sb ≠ gb := by omega
          have hSz : wz.cell? ⟨w.heap.size, 0, none⟩ = some (.slice a n.stops.length c) ∧ wz.cell? ⟨w.heap.size, 1, none⟩ = some (.slice (some ⟨lb, lo, none⟩) n.lines.length c') ∧ wz.cell? ⟨w.heap.size + 1 + 1, 0, none⟩ = some (.int .i64 bi) ∧ wz.cell? ⟨w.heap.size + 1 + 1, 1, none⟩ = some (.int .i64 (lb2 : Int)) ∧ wz.cell? ⟨w.heap.size + 1 + 1, 2, none⟩ = some (.int .i64 bs0) ∧ wz.cell? ⟨sb, so + (p + 1), none⟩ = some (.int .i64 (sm : Int)) ∧ wz.cell? ⟨sb, so + (p + 1), none⟩ = some (.int .i64 (sm : Int)) ∧ wz.cell? ⟨sb, so + (p + 1), none⟩ = some (.int .i64 (sm : Int)) := by
            rw [hwz]
            exact ⟨(set4_ne hne0).trans (hSk).1, (set4_ne hne0).trans (hSk).2.1, (set4_ne hne2).trans (hSk).2.2.1, (set4_ne hne2).trans (hSk).2.2.2.1, (set4_ne hne2).trans (hSk).2.2.2.2.1, (set4_ne hnes).trans (hSk).2.2.2.2.2.1, (set4_ne hnes).trans (hSk).2.2.2.2.2.1, (set4_ne hnes).trans (hSk).2.2.2.2.2.1⟩
          have z3 : wz.cell? ⟨gb, 3, none⟩ = some (.int .i64 f3) := by rw [hwz]; exact set4_at bk0 bk1 bk2 bk3
          have HBz : Hid (Below wr.heap.size wr wz) := by
            show Below _ _ _
            rw [hwz]
            exact ((((HQk.out).setCell (p := ⟨gb, 0, none⟩) hgw _).setCell (p := ⟨gb, 1, none⟩) hgw _).setCell (p := ⟨gb, 2, none⟩) hgw _).setCell (p := ⟨gb, 3, none⟩) hgw _
          rw [← hwz]
          clear hwz
          refine hK.out _ _ hSz (fun hH15 => ?_)
          clear hK K
          try simp only [Act.put, List.setIfInBounds_toArray, List.set_cons_zero, List.set_cons_succ]
          refine wpAnyH_take (i := 16) (v := ?_) (by simp only [List.getElem?_toArray, List.getElem?_cons_succ, List.getElem?_cons_zero]; rfl) (by kernel_rfl) (by kernel_rfl) (by kernel_rfl) (by exact fun _ _ _ h => h) (Or.inl ⟨by rfl, ?_⟩) (by assumption) ?_
          rotate_left
          · intro w' hSw; go_simp; try with_reducible rfl
          try simp only [Act.put, List.setIfInBounds_toArray, List.set_cons_zero, List.set_cons_succ]
          refine wpAnyH_done (by kernel_rfl) ?_ _
          obtain ⟨k0, k1, k2, k3, k4, -, -, -⟩ := hSz
          have hzw := HBz.out.size
          have HBn : Hid (Below w.heap.size w wz) := HB.out.trans (HBz.out.mono HB.out.size)
          have HTn : Hid (∀ q, q < ll.runs.length + 1 → wz.cell? ⟨g3, q, none⟩ = some (.int .i64 (wat TA q))) := fun q hq => bkeep HBz.out (HTm.out q hq)
          have HKn : Hid (KeepC w n a c lb lo c' bi lb2 bs0 wz) := ⟨k0, k1, k2, k3, k4⟩
          have HKd : Hid (∀ m, KeepC w n a c lb lo c' bi lb2 bs0 (wz.drewN m)) := fun m => HKn.out.later (below_drewN (Below.refl _ _) m)
          have HTd : Hid (∀ m q, q < ll.runs.length + 1 → (wz.drewN m).cell? ⟨g3, q, none⟩ = some (.int .i64 (wat TA q))) := fun m q hq => bkeep (below_drewN (Below.refl _ _) m) (HTn.out q hq)
          have c5 : wz.cell? ⟨sb, so + (p + 1), none⟩ = some (.int .i64 (sm : Int)) := bkeep HBz.out k5
          clear HQq HRw hSq HQk hSk HTm HK k0 k1 k2 k3 k4 k5 HWt HCt hcv
          by_cases hok : res.isSome = true
          · by_cases hfd : s.isSome = true
            · by_cases hlt2 : f3 - A < bestV s
              · have hdl : decide (f3 - A < bestV s) = true := decide_eq_true hlt2
                have HN := Lib.hid (HUpd.out hok (.inr hlt2))
                clear HUpd HSame hlt2
                go_wp2_with fail
                go_quiet (fail)
                go_wp2_with fail
                go_roundw
                case rel => exact ⟨p + 1, some (f3 - A, (sm : Int)), by omega, by go_num, HN, rfl, rfl, rfl, HKd.out _, HTd.out _, below_drewN HBn.out _⟩
                case measure => simp [RowKit.intOf]; omega
              · have hdl : decide (f3 - A < bestV s) = false := decide_eq_false hlt2
                have HN := Lib.hid (HSame.out (.inr ⟨hfd, by omega⟩))
                clear HUpd HSame hlt2
                go_wp2_with fail
                go_roundw
                case rel => exact ⟨p + 1, s, by omega, by go_num, HN.out.trans HS.out, rfl, rfl, (by first | rfl | rw [hfd]), HKn, HTn, HBn⟩
                case measure => simp [RowKit.intOf]; omega
            · have hfd : s.isSome = false := by simpa using hfd
              have HN := Lib.hid (HUpd.out hok (.inl hfd))
              clear HUpd HSame
              go_wp2_with fail
              go_quiet (fail)
              go_wp2_with fail
              go_roundw
              case rel => exact ⟨p + 1, some (f3 - A, (sm : Int)), by omega, by go_num, HN, rfl, rfl, rfl, HKd.out _, HTd.out _, below_drewN HBn.out _⟩
              case measure => simp [RowKit.intOf]; omega
          · have hok : res.isSome = false := by simpa using hok
            have HN := Lib.hid (HSame.out (.inl hok))
            clear HUpd HSame
            go_wp2_with fail
            go_roundw
            case rel => exact ⟨p + 1, s, by omega, by go_num, HN.out.trans HS.out, rfl, rfl, (by first | rfl | rw [hfd]), HKn, HTn, HBn⟩
            case measure => simp [RowKit.intOf]; omega
      · go_simp
        refine hK.out _ _ (keepC8 (((Below.refl _ _).alloc (Nat.le_refl _) (.cells #[.int .i64 0, .int .i64 0, .int .i64 0, .int .i64 0] 66))).drew (⟨k0, k1, k2, k3, k4, k5, k5, k5⟩)) (fun hH14 => ?_)
        clear hK K
        try simp only [Act.put, List.setIfInBounds_toArray, List.set_cons_zero, List.set_cons_succ]
        refine wpAnyH_ready (rs := [8]) (by kernel_rfl) (by simp) ?_
        refine AllReadyH.cons (by simp only [List.getElem?_toArray, List.getElem?_cons_succ, List.getElem?_cons_zero]; rfl) (fun K hK => ?_) AllReadyH.nil
        go_simp
        obtain ⟨wv, hwv⟩ : ∃ wv : World, wv = ((wr).alloc (.cells #[.int .i64 0, .int .i64 0, .int .i64 0, .int .i64 0] 66)).drew := ⟨_, rfl⟩
        obtain ⟨gb, hgb⟩ : ∃ gb : Nat, gb = (wr).heap.size := ⟨_, rfl⟩
        have kv : Below (wr).heap.size (wr) wv := by rw [hwv]; exact ((Below.refl _ _).alloc (Nat.le_refl _) (.cells #[.int .i64 0, .int .i64 0, .int .i64 0, .int .i64 0] 66)).drew
        have HQv : Hid (Below wr.heap.size wr wv) := ((Below.refl wr.heap.size wr)).trans (kv.mono ((Below.refl wr.heap.size wr)).size)
        have hSv := keepC8 kv (⟨k0, k1, k2, k3, k4, k5, k5, k5⟩)
        have bv0 : wv.cell? ⟨gb, 0, none⟩ = some (.int .i64 0) := by rw [hwv, hgb]; go_simp
        have bv1 : wv.cell? ⟨gb, 1, none⟩ = some (.int .i64 0) := by rw [hwv, hgb]; go_simp
        have bv2 : wv.cell? ⟨gb, 2, none⟩ = some (.int .i64 0) := by rw [hwv, hgb]; go_simp
        have bv3 : wv.cell? ⟨gb, 3, none⟩ = some (.int .i64 0) := by rw [hwv, hgb]; go_simp
        have hfv : ∀ o, wv.frozen? ⟨gb, o, none⟩ = false := fun o => by rw [hwv, hgb]; go_simp
        have hgw : wr.heap.size ≤ gb := by rw [hgb]; exact ((Below.refl wr.heap.size wr)).size
        rw [← hwv]
        rw [← hgb]
        clear hwv hgb
        have bx0 := bv0
        have bx1 := bv1
        have bx2 := bv2
        have bx3 := bv3
        have hfx := hfv
        go_at_call 105
        refine (HWt.out _ (HB.out.trans ((HQv.out).mono HB.out.size))).mono ?_
        rintro e wq ⟨⟨ra, rc, rfl, hor⟩, hbq⟩
        have hbq2 : Below (wv).heap.size (wv) wq := hbq
        have HQq : Hid (Below wr.heap.size wr wq) := (HQv.out).trans (hbq2.mono (HQv.out).size)
        have HRw := Lib.hid (rowAt_own hor)
        have hSq := keepC8 hbq2 (hSv)
        have bq0 : wq.cell? ⟨gb, 0, none⟩ = some (.int .i64 0) := bkeep hbq2 bx0
        have bq1 : wq.cell? ⟨gb, 1, none⟩ = some (.int .i64 0) := bkeep hbq2 bx1
        have bq2 : wq.cell? ⟨gb, 2, none⟩ = some (.int .i64 0) := bkeep hbq2 bx2
        have bq3 : wq.cell? ⟨gb, 3, none⟩ = some (.int .i64 0) := bkeep hbq2 bx3
        have hfq : ∀ o, wq.frozen? ⟨gb, o, none⟩ = false := fun o => fkeep hbq2 (show gb < _ from World.block_lt_of_cell? _ _ bx0) (hfx o)
        go_wp2_with fail
        refine hK.out _ _ hSq (fun hH8 => ?_)
        clear hK K hbq hor
        try simp only [Act.put, List.setIfInBounds_toArray, List.set_cons_zero, List.set_cons_succ]
        refine wpAnyH_ready (rs := [10]) (by kernel_rfl) (by simp) ?_
        refine AllReadyH.cons (by simp only [List.getElem?_toArray, List.getElem?_cons_succ, List.getElem?_cons_zero]; rfl) (fun K hK => ?_) AllReadyH.nil
        go_simp
        go_at_call 115
        refine (HCt.out _ _ (HB.out.trans ((HQq.out).mono HB.out.size)) (HRw.out)).mono ?_
        rintro e wk ⟨rfl, hbk⟩
        rw [hcv]
        have HQk : Hid (Below wr.heap.size wr wk) := (HQq.out).trans (hbk.mono (HQq.out).size)
        have hSk := keepC8 hbk (hSq)
        have bk0 : wk.cell? ⟨gb, 0, none⟩ = some (.int .i64 0) := bkeep hbk bq0
        have bk1 : wk.cell? ⟨gb, 1, none⟩ = some (.int .i64 0) := bkeep hbk bq1
        have bk2 : wk.cell? ⟨gb, 2, none⟩ = some (.int .i64 0) := bkeep hbk bq2
        have bk3 : wk.cell? ⟨gb, 3, none⟩ = some (.int .i64 0) := bkeep hbk bq3
        have hfk : ∀ o, wk.frozen? ⟨gb, o, none⟩ = false := fun o => fkeep hbk (show gb < _ from World.block_lt_of_cell? _ _ bq0) (hfq o)
        go_wp2_with fail
        refine hK.out _ _ hSk (fun hH10 => ?_)
        clear hK K hbk
        try simp only [Act.put, List.setIfInBounds_toArray, List.set_cons_zero, List.set_cons_succ]
        refine wpAnyH_take (i := 11) (v := ?_) (by simp only [List.getElem?_toArray, List.getElem?_cons_succ, List.getElem?_cons_zero]; rfl) (by kernel_rfl) (by kernel_rfl) (by kernel_rfl) (by exact fun _ _ _ h => h) (Or.inl ⟨by rfl, ?_⟩) (by assumption) ?_
        rotate_left
        · intro w' hSw; go_simp; try with_reducible rfl
        try simp only [Act.put, List.setIfInBounds_toArray, List.set_cons_zero, List.set_cons_succ]
        refine wpAnyH_take (i := 12) (v := ?_) (by simp only [List.getElem?_toArray, List.getElem?_cons_succ, List.getElem?_cons_zero]; rfl) (by kernel_rfl) (by kernel_rfl) (by kernel_rfl) (by exact fun _ _ _ h => h) (Or.inl ⟨by rfl, ?_⟩) (by assumption) ?_
        rotate_left
        · intro w' hSw; go_simp; try with_reducible rfl
        try simp only [Act.put, List.setIfInBounds_toArray, List.set_cons_zero, List.set_cons_succ]
        refine wpAnyH_take (i := 13) (v := ?_) (by simp only [List.getElem?_toArray, List.getElem?_cons_succ, List.getElem?_cons_zero]; rfl) (by kernel_rfl) (by kernel_rfl) (by kernel_rfl) (by exact fun _ _ _ h => h) (Or.inl ⟨by rfl, ?_⟩) (by assumption) ?_
        rotate_left
        · intro w' hSw; go_simp; try with_reducible rfl
        try simp only [Act.put, List.setIfInBounds_toArray, List.set_cons_zero, List.set_cons_succ]
        refine wpAnyH_ready (rs := [15]) (by kernel_rfl) (by simp) ?_
        refine AllReadyH.cons (by simp only [List.getElem?_toArray, List.getElem?_cons_succ, List.getElem?_cons_zero]; rfl) (fun K hK => ?_) AllReadyH.nil
        go_simp
        obtain ⟨wz, hwz⟩ : ∃ wz : World, wz = ((((wk).setCell ⟨gb, 0, none⟩ (.int .i64 f0)).setCell ⟨gb, 1, none⟩ (.int .i64 f1)).setCell ⟨gb, 2, none⟩ (.int .i64 f2)).setCell ⟨gb, 3, none⟩ (.int .i64 f3) := ⟨_, rfl⟩
        have hne0 : w.heap.size ≠ gb := by omega
        have hne2 : w.heap.size + 1 + 1 ≠ gb := by omega
        have hnes : sb ≠ gb := by omega
        have hSz : wz.cell? ⟨w.heap.size, 0, none⟩ = some (.slice a n.stops.length c) ∧ wz.cell? ⟨w.heap.size, 1, none⟩ = some (.slice (some ⟨lb, lo, none⟩) n.lines.length c') ∧ wz.cell? ⟨w.heap.size + 1 + 1, 0, none⟩ = some (.int .i64 bi) ∧ wz.cell? ⟨w.heap.size + 1 + 1, 1, none⟩ = some (.int .i64 (lb2 : Int)) ∧ wz.cell? ⟨w.heap.size + 1 + 1, 2, none⟩ = some (.int .i64 bs0) ∧ wz.cell? ⟨sb, so + (p + 1), none⟩ = some (.int .i64 (sm : Int)) ∧ wz.cell? ⟨sb, so + (p + 1), none⟩ = some (.int .i64 (sm : Int)) ∧ wz.cell? ⟨sb, so + (p + 1), none⟩ = some (.int .i64 (sm : Int)) := by
          rw [hwz]
          exact ⟨(set4_ne hne0).trans (hSk).1, (set4_ne hne0).trans (hSk).2.1, (set4_ne hne2).trans (hSk).2.2.1, (set4_ne hne2).trans (hSk).2.2.2.1, (set4_ne hne2).trans (hSk).2.2.2.2.1, (set4_ne hnes).trans (hSk).2.2.2.2.2.1, (set4_ne hnes).trans (hSk).2.2.2.2.2.1, (set4_ne hnes).trans (hSk).2.2.2.2.2.1⟩
        have z3 : wz.cell? ⟨gb, 3, none⟩ = some (.int .i64 f3) := by rw [hwz]; exact set4_at bk0 bk1 bk2 bk3
        have HBz : Hid (Below wr.heap.size wr wz) := by
          show Below _ _ _
          rw [hwz]
          exact ((((HQk.out).setCell (p := ⟨gb, 0, none⟩) hgw _).setCell (p := ⟨gb, 1, none⟩) hgw _).setCell (p := ⟨gb, 2, none⟩) hgw _).setCell (p := ⟨gb, 3, none⟩) hgw _
        rw [← hwz]
        clear hwz
        refine hK.out _ _ hSz (fun hH15 => ?_)
        clear hK K
        try simp only [Act.put, List.setIfInBounds_toArray, List.set_cons_zero, List.set_cons_succ]
        refine wpAnyH_take (i := 16) (v := ?_) (by simp only [List.getElem?_toArray, List.getElem?_cons_succ, List.getElem?_cons_zero]; rfl) (by kernel_rfl) (by kernel_rfl) (by kernel_rfl) (by exact fun _ _ _ h => h) (Or.inl ⟨by rfl, ?_⟩) (by assumption) ?_
        rotate_left
        · intro w' hSw; go_simp; try with_reducible rfl
        try simp only [Act.put, List.setIfInBounds_toArray, List.set_cons_zero, List.set_cons_succ]
        refine wpAnyH_done (by kernel_rfl) ?_ _
        obtain ⟨k0, k1, k2, k3, k4, -, -, -⟩ := hSz
        have hzw := HBz.out.size
        have HBn : Hid (Below w.heap.size w wz) := HB.out.trans (HBz.out.mono HB.out.size)
        have HTn : Hid (∀ q, q < ll.runs.length + 1 → wz.cell? ⟨g3, q, none⟩ = some (.int .i64 (wat TA q))) := fun q hq => bkeep HBz.out (HTm.out q hq)
        have HKn : Hid (KeepC w n a c lb lo c' bi lb2 bs0 wz) := ⟨k0, k1, k2, k3, k4⟩
        have HKd : Hid (∀ m, KeepC w n a c lb lo c' bi lb2 bs0 (wz.drewN m)) := fun m => HKn.out.later (below_drewN (Below.refl _ _) m)
        have HTd : Hid (∀ m q, q < ll.runs.length + 1 → (wz.drewN m).cell? ⟨g3, q, none⟩ = some (.int .i64 (wat TA q))) := fun m q hq => bkeep (below_drewN (Below.refl _ _) m) (HTn.out q hq)
        have c5 : wz.cell? ⟨sb, so + (p + 1), none⟩ = some (.int .i64 (sm : Int)) := bkeep HBz.out k5
        clear HQq HRw hSq HQk hSk HTm HK k0 k1 k2 k3 k4 k5 HWt HCt hcv
        by_cases hok : res.isSome = true
        · by_cases hfd : s.isSome = true
          · by_cases hlt2 : f3 - A < bestV s
            · have hdl : decide (f3 - A < bestV s) = true := decide_eq_true hlt2
              have HN := Lib.hid (HUpd.out hok (.inr hlt2))
              clear HUpd HSame hlt2
              go_wp2_with fail
              go_quiet (fail)
              go_wp2_with fail
              go_roundw
              case rel => exact ⟨p + 1, some (f3 - A, (sm : Int)), by omega, by go_num, HN, rfl, rfl, rfl, HKd.out _, HTd.out _, below_drewN HBn.out _⟩
              case measure => simp [RowKit.intOf]; omega
            · have hdl : decide (f3 - A < bestV s) = false := decide_eq_false hlt2
              have HN := Lib.hid (HSame.out (.inr ⟨hfd, by omega⟩))
              clear HUpd HSame hlt2
              go_wp2_with fail
              go_roundw
              case rel => exact ⟨p + 1, s, by omega, by go_num, HN.out.trans HS.out, rfl, rfl, (by first | rfl | rw [hfd]), HKn, HTn, HBn⟩
              case measure => simp [RowKit.intOf]; omega
          · have hfd : s.isSome = false := by simpa using hfd
            have HN := Lib.hid (HUpd.out hok (.inl hfd))
            clear HUpd HSame
            go_wp2_with fail
            go_quiet (fail)
            go_wp2_with fail
            go_roundw
            case rel => exact ⟨p + 1, some (f3 - A, (sm : Int)), by omega, by go_num, HN, rfl, rfl, rfl, HKd.out _, HTd.out _, below_drewN HBn.out _⟩
            case measure => simp [RowKit.intOf]; omega
        · have hok : res.isSome = false := by simpa using hok
          have HN := Lib.hid (HSame.out (.inl hok))
          clear HUpd HSame
          go_wp2_with fail
          go_roundw
          case rel => exact ⟨p + 1, s, by omega, by go_num, HN.out.trans HS.out, rfl, rfl, (by first | rfl | rw [hfd]), HKn, HTn, HBn⟩
          case measure => simp [RowKit.intOf]; omega
    · have hpe : p = ll.runs.length := by omega
      have HE : Hid (res0 = s) := by show _ = _; rw [← HRes0.out, ← hpe]; exact HS.out
      have hp1 : ¬ ((p + 1 : Nat) : Int) < (ll.stops.length : Int) := by omega
      have hp2 : ¬ (p : Int) + 1 < (ll.stops.length : Int) := by omega
      go_wp2_with fail
      go_ret3
      refine ⟨?_, HB.out⟩
      rw [HE.out]
      rfl
end Go.Proofs.Ytmbpkdplgfgheaa

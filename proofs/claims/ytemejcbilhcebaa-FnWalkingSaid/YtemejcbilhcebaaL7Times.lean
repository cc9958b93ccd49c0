import Derived.Test.YtemejcbilhcebaaWayP
import Derived.Test.YtemejcbilhcebaaWalkGood
import Derived.Test.YtemejcbilhcebaaMk04
import Derived.Laws.IdiomStrings
import Derived.Maps.AppendAt
namespace Go.Proofs.Ytemejcbilhcebaa
open Go.RowKit
set_option linter.unusedVariables false
set_option linter.unusedSimpArgs false

theorem ints_set7 (zs : List Int) (k : Nat) (a : Int) : (ints zs).set k (.int .i64 a) = ints (zs.set k a) := by unfold ints; rw [List.map_set]
theorem set_otherW {w : World} {b b' i o : Nat} {u : Value} (h : b' ≠ b) : (w.setCell ⟨b, i, none⟩ u).cell? ⟨b', o, none⟩ = w.cell? ⟨b', o, none⟩ := by
  unfold World.cell?
  simp only
  rw [Below.heap_setCell _ _ _ _ (fun e => h (by simpa using e))]

def rowOf (w : World) (g N : Nat) : List Int := (List.range N).map (fun k => match w.cell? ⟨g, k, none⟩ with | some (.int _ x) => x | _ => 0)
theorem rowOf_own {w : World} {B : Nat} {e : TypeId} {g c N : Nat} {xs : List Int} (hl : xs.length = N) (h : w.ownsRow B e 1 (.slice (some ⟨g, 0, none⟩) N c) N (ints xs)) : rowOf w g N = xs := by
  unfold rowOf
  refine List.ext_getElem (by simp [hl]) (fun k h1 h2 => ?_)
  have hk : k < N := by simpa using h1
  simp only [List.getElem_map, List.getElem_range]
  rw [h.cellAt k (by omega)]
  unfold ints
  rw [List.getElem?_map, List.getElem?_eq_getElem h2]
  rfl

structure PassOk (ws : List WlkD) (n f : Nat) (xs0 : List Int) (k : Nat) (bm : Bool) (xs : List Int) : Prop where
  rlx : Rlx ws n f xs
  yes : bm = true → mu xs < mu xs0
  no : bm = false → xs = xs0 ∧ ∀ j (h : j < ws.length), j < k → ClosedAt xs (ws[j]'h).a (ws[j]'h).b (ws[j]'h).m ∧ ClosedAt xs (ws[j]'h).b (ws[j]'h).a (ws[j]'h).m
structure TurnOk (ws : List WlkD) (n f : Nat) (xs0 : List Int) (k : Nat) (x : WlkD) (t pa pb : Nat) (bm : Bool) (xs : List Int) : Prop where
  rlx : Rlx ws n f xs
  yes : bm = true → mu xs < mu xs0
  no : bm = false → xs = xs0 ∧ (∀ j (h : j < ws.length), j < k → ClosedAt xs (ws[j]'h).a (ws[j]'h).b (ws[j]'h).m ∧ ClosedAt xs (ws[j]'h).b (ws[j]'h).a (ws[j]'h).m) ∧ (1 ≤ t → ClosedAt xs x.a x.b x.m) ∧ (2 ≤ t → ClosedAt xs x.b x.a x.m)
  at0 : t = 0 → (pa : Int) = x.a ∧ (pb : Int) = x.b
  at1 : t = 1 → (pa : Int) = x.b ∧ (pb : Int) = x.a
theorem PassOk.turn {ws : List WlkD} {n f : Nat} {xs0 xs : List Int} {k : Nat} {bm : Bool} (h : PassOk ws n f xs0 k bm xs) {x : WlkD} {pa pb : Nat} (h1 : (pa : Int) = x.a) (h2 : (pb : Int) = x.b) : TurnOk ws n f xs0 k x 0 pa pb bm xs :=
  ⟨h.rlx, h.yes, fun e => ⟨(h.no e).1, (h.no e).2, fun h => (by omega), fun h => (by omega)⟩, fun _ => ⟨h1, h2⟩, fun h => (by omega)⟩
theorem TurnOk.done {ws : List WlkD} {n f : Nat} {xs0 xs : List Int} {k pa pb : Nat} {bm : Bool} (hk : k < ws.length) (h : TurnOk ws n f xs0 k ws[k] 2 pa pb bm xs) : PassOk ws n f xs0 (k + 1) bm xs :=
  ⟨h.rlx, h.yes, fun e => ⟨(h.no e).1, fun j hj hjk => by
    by_cases ej : j = k
    · subst ej; exact ⟨(h.no e).2.2.1 (by omega), (h.no e).2.2.2 (by omega)⟩
    · exact (h.no e).2.1 j hj (by omega)⟩⟩
theorem TurnOk.next {ws : List WlkD} {n f : Nat} {xs0 xs : List Int} {k : Nat} {x : WlkD} {t pa pb : Nat} {bm : Bool} (h : TurnOk ws n f xs0 k x t pa pb bm xs) (ht : t < 2) (he : 0 ≤ x.a ∧ x.a < x.b) : nextOf x pa = some pb := by
  unfold nextOf
  obtain rfl | rfl : t = 0 ∨ t = 1 := by omega
  · have := h.at0 rfl
    rw [if_pos this.1]; simp only [Option.some.injEq]; omega
  · have := h.at1 rfl
    rw [if_neg (by omega), if_pos this.1]; simp only [Option.some.injEq]; omega
theorem TurnOk.relax {ws : List WlkD} {n f : Nat} {xs0 xs : List Int} {k : Nat} {x : WlkD} {t pa pb : Nat} {bm : Bool} (h : TurnOk ws n f xs0 k x t pa pb bm xs) (hv : WksOk n ws) (hn : n ≤ 8) (hx : x ∈ ws) (ht : t < 2) {qa qb : Nat} (hqa : (qa : Int) = x.b) (hqb : (qb : Int) = x.a)
    (h0 : 0 ≤ wat xs pa) (h1 : wat xs pb < 0 ∨ wat xs pa + x.m < wat xs pb) : TurnOk ws n f xs0 k x (t + 1) qa qb true (xs.set pb (wat xs pa + x.m)) := by
  have he := hv.each x hx
  obtain ⟨g1, g2⟩ := h.rlx.step hv hn hx (h.next ht ⟨he.1, he.2.1⟩) h0 h1
  refine ⟨g1, fun _ => ?_, fun e => (by cases e), fun e => (by omega), fun _ => ⟨hqa, hqb⟩⟩
  cases bm with
  | true => have := h.yes rfl; omega
  | false => have := (h.no rfl).1; rw [this] at g2 ⊢; exact g2
theorem TurnOk.stay {ws : List WlkD} {n f : Nat} {xs0 xs : List Int} {k : Nat} {x : WlkD} {t pa pb : Nat} {bm : Bool} (h : TurnOk ws n f xs0 k x t pa pb bm xs) (ht : t < 2) {qa qb : Nat} (hqa : (qa : Int) = x.b) (hqb : (qb : Int) = x.a)
    (hno : ¬ (0 ≤ wat xs pa ∧ (wat xs pb < 0 ∨ wat xs pa + x.m < wat xs pb))) : TurnOk ws n f xs0 k x (t + 1) qa qb bm xs := by
  refine ⟨h.rlx, h.yes, fun e => ?_, fun e => (by omega), fun _ => ⟨hqa, hqb⟩⟩
  obtain ⟨g1, g2, g3, g4⟩ := h.no e
  have hcl : ClosedAt xs pa pb x.m := by
    unfold ClosedAt
    simp only [Int.toNat_natCast]
    intro h0
    have : ¬ (wat xs pb < 0 ∨ wat xs pa + x.m < wat xs pb) := fun h => hno ⟨h0, h⟩
    omega
  refine ⟨g1, g2, fun _ => ?_, fun _ => ?_⟩
  · obtain rfl | rfl : t = 0 ∨ t = 1 := by omega
    · have := h.at0 rfl; rw [← this.1, ← this.2]; exact hcl
    · exact g3 (by omega)
  · obtain rfl : t = 1 := by omega
    have := h.at1 rfl; rw [← this.1, ← this.2]; exact hcl
theorem PassOk.all {ws : List WlkD} {n f : Nat} {xs0 xs : List Int} (h : PassOk ws n f xs0 ws.length false xs) (hv : WksOk n ws) : IsWT ws n f xs :=
  h.rlx.isWT hv (fun x hx => by
    obtain ⟨j, hj, rfl⟩ := List.getElem_of_mem hx
    exact (h.no rfl).2 j hj hj)

set_option maxRecDepth 100000 in
set_option maxHeartbeats 4000000 in
theorem l7Times_any (lv : Value) (ws : List WlkD) (n f : Nat) (w : World) (hl : WalksAt w lv ws) (hv : WksOk n ws) (hn8 : n ≤ 8) (hf : f < n) :
    Calls Try.prog 89 #[.int .i64 n, lv, .int .i64 f] w fun e w' => (∃ a c, e = .returned (.slice a n c) ∧ w'.ownsRow w.heap.size 3 1 (.slice a n c) n (ints (wt ws n f))) ∧ Below w.heap.size w w' := by
  have HL := Lib.hid hl
  have HV := Lib.hid hv
  have hwl := hv.len
  obtain ⟨lb, ld, rfl⟩ := WalkS_open hl
  clear hl hv
  obtain ⟨i0, hi0, hz0, hz1, hz2⟩ := info_parts infoInt
  go_enter Try.func89, Try.ntmps89
  go_wp2_with fail
  go_loopw [7, 8] (fun o q wr => ∃ p : Nat, p ≤ n ∧ q = .int .i64 p ∧ Hid (wr.ownsRow w.heap.size 3 1 o p (ints (List.replicate p (-1)))) ∧ Hid (Below w.heap.size w wr))
    (fun _ q _ => n - (RowKit.intOf q).toNat)
  case atStart =>
    refine ⟨0, Nat.zero_le _, rfl, ?_, (Below.refl _ _).alloc (Nat.le_refl _) _⟩
    have h := World.ownsRow_lit (base := w.heap.size) (e := 3) (size := 1) w #[] 0 (by simp) (by decide) (by simp)
    show World.ownsRow _ _ _ _ _ _ _
    simpa [ints] using h
  case round =>
    obtain ⟨p, hp, rfl, HOwn, HB⟩ := hrel
    obtain ⟨oa, oc, rfl⟩ := own_shape HOwn.out
    by_cases hlt : p < n
    · have hlt1 : (p : Int) < (n : Int) := by omega
      have hws := HB.out.size
      go_wp2_with (at_builtin; refine wpList_append_own_at _ rfl _ _ 34 rfl w.heap.size 3 i0 (.int .i64 0) 1 8 Try.underlying34 hi0 hz0 hz1 hz2 rfl (by decide) _ p _ rfl (HOwn.out.alloc _) ⟨wr.heap.size, 0, none⟩ 1 1 [.int .i64 (-1)] rfl rfl ?c1 ?c2 ?c3 ?c4 ?c5 ?_)
      case c1 => exact one_new _ _
      case c2 => intro u hu; simp at hu; subst hu; rfl
      case c3 => unfold maxLen; omega
      case c4 => omega
      case c5 => simp; omega
      intro v' w3 hown' hgrow _ hat
      have HR : Hid (w3.ownsRow w.heap.size 3 1 v' (p + 1) (ints (List.replicate (p + 1) (-1)))) := by
        show w3.ownsRow _ _ _ _ _ _
        rw [List.replicate_succ']; simpa [ints] using hown'
      have HB3 : Hid (Below w.heap.size w w3) := (HB.out.alloc (by omega) _).grown hgrow (by simp; omega) (fun g hg => (HOwn.out.lt g hg).1)
      clear hown' hgrow hat
      go_wp2_with fail
      go_roundw
      case rel => exact ⟨p + 1, by omega, by go_num, HR, HB3⟩
      case measure => simp [RowKit.intOf]; omega
    · obtain rfl : p = n := by omega
      obtain ⟨g, rfl⟩ : ∃ g, oa = some ⟨g, 0, none⟩ := by
        obtain ⟨_, h2⟩ := HOwn.out
        rcases h2 with ⟨hv, h0⟩ | ⟨g, cap, cur, hv, hg, hblk, h3, h4, h5, h6⟩
        · omega
        · simp at hv; exact ⟨g, hv.1⟩
      have hgl := HOwn.out.lt g rfl
      have hown := HOwn.out
      have hlen0 : (ints (List.replicate p (-1))).length = p := by simp [ints]
      have q0 : wr.cell? ⟨g, f, none⟩ = some ((ints (List.replicate p (-1)))[f]'(by omega)) := by rw [hown.cellAt f (by omega)]; exact List.getElem?_eq_getElem _
      have hfz := fun o => hown.frozenAt o
      have HOwn0 : Hid ((wr.setCell ⟨g, f, none⟩ (.int .i64 0)).ownsRow w.heap.size 3 1 (.slice (some ⟨g, 0, none⟩) p oc) p (ints ((List.replicate p (-1)).set f 0))) := by
        rw [← ints_set7]; exact (hown.stored f (.int .i64 0)).1
      have HB0 : Hid (Below w.heap.size w (wr.setCell ⟨g, f, none⟩ (.int .i64 0))) := HB.out.setCell (p := ⟨g, f, none⟩) hgl.1 _
      have HP0 : Hid (Rlx ws p f ((List.replicate p (-1)).set f 0)) := Rlx.init hf
      have hf1 : (f : Int) < (p : Int) := by omega
      generalize (ints (List.replicate p (-1)))[f] = old at *
      clear hown HOwn
      go_wp2_with fail

      go_loopw [9] (fun mo wr => ∃ b : Bool, mo = .bool b ∧ ∃ xs : List Int, Hid (wr.ownsRow w.heap.size 3 1 (.slice (some ⟨g, 0, none⟩) p oc) p (ints xs)) ∧ Hid (Rlx ws p f xs) ∧ Hid (b = false → IsWT ws p f xs) ∧ Hid (Below w.heap.size w wr))
        (fun mo wr => 2 * mu (rowOf wr g p) + (match mo with | .bool true => 1 | _ => 0))
      case atStart => exact ⟨true, rfl, _, HOwn0, HP0, (fun e => by cases e), HB0⟩
      case round =>
        clear HOwn0 HP0 HB0 q0 hfz HB hgl
        obtain ⟨b, rfl, xs, HOwn, HR, HW, HB⟩ := hrel
        obtain ⟨wo, rfl⟩ : ∃ wo : World, wo = wr := ⟨_, rfl⟩
        cases b with
        | false =>
          have HWt := Lib.hid (wt_eq (HW.out rfl))
          go_wp2_with fail
          go_ret
          exact ⟨⟨_, oc, rfl, by rw [HWt.out]; exact HOwn.out⟩, HB.out⟩
        | true =>
          have hmu : mu (rowOf wo g p) = mu xs := by rw [rowOf_own HR.out.len HOwn.out]
          go_wp2_with fail
          go_loopw [9, 10] (fun mo i wr => ∃ (b : Bool) (k : Nat), mo = .bool b ∧ k ≤ ws.length ∧ i = .int .i64 k ∧ ∃ ys : List Int, Hid (wr.ownsRow w.heap.size 3 1 (.slice (some ⟨g, 0, none⟩) p oc) p (ints ys)) ∧ Hid (PassOk ws p f xs k b ys) ∧ Hid (Below w.heap.size w wr))
            (fun _ i _ => ws.length - (RowKit.intOf i).toNat)
          case atStart => exact ⟨false, 0, rfl, Nat.zero_le _, rfl, xs, HOwn, ⟨HR.out, (fun e => by cases e), fun _ => ⟨rfl, fun j h hj => by omega⟩⟩, HB⟩
          case round =>
            clear HOwn HW HB
            obtain ⟨b, k, rfl, hk, rfl, ys, HOwn, HPass, HB⟩ := hrel
            obtain ⟨wp, rfl⟩ : ∃ wp : World, wp = wr := ⟨_, rfl⟩
            by_cases hlt : k < ws.length
            · obtain ⟨lg, lo, rfl, hgb, y0, y1, y2⟩ := walk_at (HL.out.below rfl HB.out) k hlt
              have hxe := HV.out.each ws[k] (List.getElem_mem hlt)
              have HX : Hid (ws[k] ∈ ws) := List.getElem_mem hlt
              have hk1 : (k : Int) < (ws.length : Int) := by omega
              have hlgw : lg < w.heap.size := by
                obtain ⟨g3, go3, he3, hlt3, -⟩ := walk_at HL.out k hlt
                simp only [Option.some.injEq, Addr.mk.injEq] at he3
                omega
              have HDone : Hid (∀ pa pb bm zs, TurnOk ws p f xs k ws[k] 2 pa pb bm zs → PassOk ws p f xs (k + 1) bm zs) := fun pa pb bm zs h => h.done hlt
              obtain ⟨xa, hxa⟩ := Int.eq_ofNat_of_zero_le hxe.1
              obtain ⟨xb, hxb⟩ := Int.eq_ofNat_of_zero_le (show 0 ≤ ws[k].b by omega)
              obtain ⟨xm, hxm⟩ : ∃ m, ws[k].m = m := ⟨_, rfl⟩
              have hgx : ws[k] = ⟨(xa : Int), (xb : Int), xm⟩ := by rw [← hxa, ← hxb, ← hxm]
              rw [hgx] at hxe HX HDone y0 y1 y2
              simp only at hxe y0 y1 y2
              have HT0 : Hid (TurnOk ws p f xs k ⟨(xa : Int), (xb : Int), xm⟩ 0 xa xb b ys) := HPass.out.turn rfl rfl
              clear hxa hxb hxm HPass
              go_wp2_with fail
              go_quiet (fail)
              go_wp2_with fail
              go_loopw [9, 11, 12, 13] (fun mo va vb vt wr => ∃ (bm : Bool) (tt pa pb : Nat), mo = .bool bm ∧ tt ≤ 2 ∧ vt = .int .i64 tt ∧ va = .int .i64 pa ∧ vb = .int .i64 pb ∧ ∃ zs : List Int, Hid (wr.ownsRow w.heap.size 3 1 (.slice (some ⟨g, 0, none⟩) p oc) p (ints zs)) ∧ Hid (TurnOk ws p f xs k ⟨(xa : Int), (xb : Int), xm⟩ tt pa pb bm zs) ∧ Hid (Below w.heap.size w wr))
                (fun _ _ _ vt _ => 2 - (RowKit.intOf vt).toNat)
              case atStart => exact ⟨b, 0, xa, xb, rfl, by omega, rfl, rfl, rfl, ys, own_later HOwn.out (below_drewN (Below.refl _ _) _), HT0, below_drewN HB.out _⟩
              case round =>
                clear HOwn HT0 HB y0 y1 y2 hgb
                obtain ⟨bm, tt, pa, pb, rfl, htt, rfl, rfl, rfl, zs, HOz, HT, HBz⟩ := hrel
                by_cases htl : tt < 2
                · have htl1 : (tt : Int) < 2 := by omega
                  have hnx := HT.out.next htl ⟨by simp only; omega, by simp only; omega⟩
                  obtain ⟨hpa, hpb, -⟩ := nextOf_lt HV.out HX.out hnx
                  have hpa1 : (pa : Int) < (p : Int) := by omega
                  have hpb1 : (pb : Int) < (p : Int) := by omega
                  have hzl := HT.out.rlx.len
                  have hba := HT.out.rlx.bound pa hpa
                  have hbb := HT.out.rlx.bound pb hpb
                  have hcn := cnt_le zs
                  have hA := wat_at (xs := zs) (s := pa) (by omega)
                  have hB := wat_at (xs := zs) (s := pb) (by omega)
                  have hown := HOz.out
                  have hlenz : (ints zs).length = p := by simp [ints, hzl]
                  have qa : wr.cell? ⟨g, pa, none⟩ = some (.int .i64 (wat zs pa)) := by
                    rw [hown.cellAt pa (by omega), List.getElem?_eq_getElem (by omega)]; simp [ints, hA]
                  have qb : wr.cell? ⟨g, pb, none⟩ = some (.int .i64 (wat zs pb)) := by
                    rw [hown.cellAt pb (by omega), List.getElem?_eq_getElem (by omega)]; simp [ints, hB]
                  have hfz := fun o => hown.frozenAt o
                  have hglr := (hown.lt g rfl)
                  obtain ⟨g2, go2, he, hgb2, y0, y1, y2⟩ := walk_at (HL.out.below rfl HBz.out) k hlt
                  simp only [Option.some.injEq, Addr.mk.injEq] at he
                  obtain ⟨rfl, rfl, -⟩ := he
                  rw [hgx] at y0 y1 y2
                  simp only at y0 y1 y2
                  have hwm : IntKind.i64.wrap (wat zs pa + xm) = wat zs pa + xm → True := fun _ => trivial
                  clear hA hB hwm hlenz
                  have HRel : Hid (∀ bb, 0 ≤ wat zs pa → (wat zs pb < 0 ∨ wat zs pa + xm < wat zs pb) → bb = true → TurnOk ws p f xs k ⟨(xa : Int), (xb : Int), xm⟩ (tt + 1) xb xa bb (zs.set pb (wat zs pa + xm))) := fun bb h1 h2 e => by subst e; exact HT.out.relax HV.out hn8 HX.out htl rfl rfl h1 h2
                  have HStay : Hid (¬ (0 ≤ wat zs pa ∧ (wat zs pb < 0 ∨ wat zs pa + xm < wat zs pb)) → TurnOk ws p f xs k ⟨(xa : Int), (xb : Int), xm⟩ (tt + 1) xb xa bm zs) := fun h => HT.out.stay htl rfl rfl h
                  clear HT
                  generalize wat zs pa = A at *
                  generalize wat zs pb = B at *
                  by_cases c1 : 0 ≤ A
                  · have d1 : decide (0 ≤ A) = true := decide_eq_true c1
                    have hw1 : IntKind.i64.wrap (A + xm) = A + xm := IntWalk.i64_in _ (by omega)
                    by_cases c2 : B < 0 ∨ A + xm < B
                    · have HT2 : Hid (TurnOk ws p f xs k ⟨(xa : Int), (xb : Int), xm⟩ (tt + 1) xb xa true (zs.set pb (A + xm))) := HRel.out true c1 c2 rfl
                      have hlg : lg ≠ g := fun e => by have := hlgw; omega
                      have HOn : Hid (∀ m, World.ownsRow ((wr.drewN m).setCell ⟨g, pb, none⟩ (.int .i64 (A + xm))) w.heap.size 3 1 (.slice (some ⟨g, 0, none⟩) p oc) p (ints (zs.set pb (A + xm)))) := fun m => by
                        rw [← ints_set7]; exact ((own_later hown (below_drewN (Below.refl _ _) m)).stored pb (.int .i64 (A + xm))).1
                      have HBn : Hid (∀ m, Below w.heap.size w ((wr.drewN m).setCell ⟨g, pb, none⟩ (.int .i64 (A + xm)))) := fun m => (below_drewN HBz.out m).setCell (p := ⟨g, pb, none⟩) hglr.1 _
                      have HZ0 : Hid (∀ m, ((wr.drewN m).setCell ⟨g, pb, none⟩ (.int .i64 (A + xm))).cell? ⟨lg, lo + k * 3, none⟩ = some (.int .i64 (xa : Int))) := fun m => (set_otherW hlg).trans (bkeep (below_drewN (Below.refl _ _) m) y0)
                      have HZ1 : Hid (∀ m, ((wr.drewN m).setCell ⟨g, pb, none⟩ (.int .i64 (A + xm))).cell? ⟨lg, lo + k * 3 + 1, none⟩ = some (.int .i64 (xb : Int))) := fun m => (set_otherW hlg).trans (bkeep (below_drewN (Below.refl _ _) m) y1)
                      clear HStay HRel hown
                      by_cases c3 : B < 0
                      · have d2 : decide (B < 0) = true := decide_eq_true c3
                        clear c2
                        go_wp2_with fail
                        go_quiet (fail)
                        go_wp2_with fail
                        go_region
                        have z0 := HZ0.out (nq + 1)
                        have z1 := HZ1.out (nq + 1)
                        have HOn2 := Lib.hid (HOn.out (nq + 1))
                        have HBn2 := Lib.hid (HBn.out (nq + 1))
                        clear HOn HBn HZ0 HZ1 qa qb y0 y1 y2
                        go_wp2_with fail
                        exact ⟨⟨true, tt + 1, xb, xa, rfl, by omega, by go_num, rfl, rfl, _, HOn2, HT2, HBn2⟩, by simp [RowKit.intOf]; omega⟩
                      · have d2 : decide (B < 0) = false := decide_eq_false c3
                        have d3 : decide (A + xm < B) = true := decide_eq_true (by omega)
                        clear c2
                        go_wp2_with fail
                        go_quiet (fail)
                        go_wp2_with fail
                        go_region
                        have z0 := HZ0.out (nq + 1)
                        have z1 := HZ1.out (nq + 1)
                        have HOn2 := Lib.hid (HOn.out (nq + 1))
                        have HBn2 := Lib.hid (HBn.out (nq + 1))
                        clear HOn HBn HZ0 HZ1 qa qb y0 y1 y2
                        go_wp2_with fail
                        exact ⟨⟨true, tt + 1, xb, xa, rfl, by omega, by go_num, rfl, rfl, _, HOn2, HT2, HBn2⟩, by simp [RowKit.intOf]; omega⟩
                    · have HT2 : Hid (TurnOk ws p f xs k ⟨(xa : Int), (xb : Int), xm⟩ (tt + 1) xb xa bm zs) := HStay.out (by rintro ⟨h1, h2⟩; exact c2 h2)
                      have d2 : decide (B < 0) = false := decide_eq_false (by omega)
                      have d3 : decide (A + xm < B) = false := decide_eq_false (by omega)
                      clear c2
                      clear HStay HRel hown
                      go_wp2_with fail
                      go_quiet (fail)
                      go_wp2_with fail
                      exact ⟨⟨bm, tt + 1, xb, xa, rfl, by omega, by go_num, rfl, rfl, zs, own_later HOz.out (below_drewN (Below.refl _ _) _), HT2, below_drewN HBz.out _⟩, by simp [RowKit.intOf]; omega⟩
                  · have d1 : decide (0 ≤ A) = false := decide_eq_false c1
                    have HT2 : Hid (TurnOk ws p f xs k ⟨(xa : Int), (xb : Int), xm⟩ (tt + 1) xb xa bm zs) := HStay.out (by rintro ⟨h1, h2⟩; exact c1 h1)
                    clear HStay HRel hown
                    go_wp2_with fail
                    go_quiet (fail)
                    go_wp2_with fail
                    exact ⟨⟨bm, tt + 1, xb, xa, rfl, by omega, by go_num, rfl, rfl, zs, own_later HOz.out (below_drewN (Below.refl _ _) _), HT2, below_drewN HBz.out _⟩, by simp [RowKit.intOf]; omega⟩
                · obtain rfl : tt = 2 := by omega
                  have HPass2 := Lib.hid (HDone.out _ _ _ _ HT.out)
                  clear HT
                  go_wp2_with fail
                  exact ⟨⟨bm, k + 1, rfl, by omega, by go_num, zs, HOz, HPass2, HBz⟩, by simp [RowKit.intOf]; omega⟩
            · obtain rfl : k = ws.length := by omega
              have hmu2 : mu (rowOf wp g p) = mu ys := by rw [rowOf_own HPass.out.rlx.len HOwn.out]
              go_wp2_with fail
              refine ⟨⟨b, rfl, ys, HOwn, HPass.out.rlx, fun e => by subst e; exact HPass.out.all HV.out, HB⟩, ?_⟩
              rw [hmu, hmu2]
              cases b with
              | true => have := HPass.out.yes rfl; simp only; omega
              | false => rw [(HPass.out.no rfl).1]; simp only; omega
end Go.Proofs.Ytemejcbilhcebaa

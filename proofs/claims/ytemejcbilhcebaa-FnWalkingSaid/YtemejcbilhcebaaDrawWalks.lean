import Derived.Test.YtemejcbilhcebaaAnyNet
import Derived.Test.YtemejcbilhcebaaCloseWalks
import Derived.Test.YtemejcbilhcebaaMk03
import Derived.Test.YtemejcbilhcebaaMk05
import Derived.Deep.DeepCutAuto
namespace Go.Proofs.Ytemejcbilhcebaa
open Go.RowKit
set_option linter.unusedVariables false
set_option linter.unusedSimpArgs false

theorem build_wlk (a b m : Int) (w : World) : (Instr.build 67 #[(0, .int .i64 a), (1, .int .i64 b), (2, .int .i64 m)]).run Try.prog w = .ok (.agg #[.int .i64 a, .int .i64 b, .int .i64 m]) w :=
  run_build w 67 #[(0, .int .i64 a), (1, .int .i64 b), (2, .int .i64 m)] #[.int .i64 a, .int .i64 b, .int .i64 m] (by kernel_rfl)
def amMi : List Int := [1, 2, 3, 5, 8, 20]
def amB0 : List Int := [0, 1, 8]
def amM1 : List Int := [0, 120, 121]
theorem amMi_in : ∀ x ∈ amMi, 0 ≤ x ∧ x ≤ 200 := by decide
theorem amB0_in : ∀ x ∈ amB0, 0 ≤ x ∧ x ≤ 200 := by decide
theorem amM1_in : ∀ x ∈ amM1, 0 ≤ x ∧ x ≤ 200 := by decide

def WkIn (x : WlkD) : Prop := (-10 ≤ x.a ∧ x.a ≤ 200) ∧ (-10 ≤ x.b ∧ x.b ≤ 200) ∧ (-10 ≤ x.m ∧ x.m ≤ 200)
theorem wkIn_snoc {xs : List WlkD} {x : WlkD} (h : ∀ y ∈ xs, WkIn y) (hx : WkIn x) : ∀ y ∈ xs ++ [x], WkIn y := fun y hy => by
  rcases List.mem_append.1 hy with g | g
  · exact h y g
  · simp at g; subst g; exact hx

theorem run_append_wlk (w : World) (B : Nat) (v : Value) (ts : List WlkD) (hown : w.ownsRow B 67 3 v ts.length (wlkC ts)) (g : Nat) (x : WlkD) (hy : ∀ j u, (wlkC [x])[j]? = some u → w.cell? ((⟨g, 0, none⟩ : Addr).add j) = some u) (hn : ts.length ≤ 1000) (hB : B ≤ w.heap.size) :
    ∃ v' w', (Builtin.append_ #[59, 59] 59 #[v, .slice (some ⟨g, 0, none⟩) 1 1]).run Try.prog w = .ok v' w' ∧ w'.ownsRow B 67 3 v' (ts.length + 1) (wlkC (ts ++ [x])) ∧ w.grownBy w' v.ownBlock := by
  obtain ⟨i, hi, hz0, hz1, hz2⟩ := info_parts infoWalk
  obtain ⟨v', w', h1, h2, h3, -, h5⟩ := run_append_own_at (P := Try.prog) (w := w) B 59 59 67 i (.agg #[.int .i64 0, .int .i64 0, .int .i64 0]) 3 24 Try.underlying59 hi hz0 hz1 hz2 rfl (by decide) v ts.length (wlkC ts) hown ⟨g, 0, none⟩ 1 1 (wlkC [x]) rfl hy (wlkC_cells [x]) (by unfold maxLen; omega) (by omega) hB
  exact ⟨v', w', h1, by rw [wlkC_append]; exact h2, h3⟩
set_option maxRecDepth 100000 in
set_option maxHeartbeats 16000000 in
theorem walks_any (b n : Nat) (v : Value) (d : NetD) (a : Option Addr) (c : Nat) (oa : Option Addr) (oc : Nat) (w : World) (hc : CurAt w b v n) (hv : CodeOff w b v) (hn : n ≤ 500000) (hd : d.stops.length ≤ 8) :
    Calls Try.prog 109 #[.pointer (some ⟨b, 0, none⟩), .agg #[.slice a d.stops.length c, .slice oa d.lines.length oc]] w fun e w' => (∃ (xs : List WlkD) (la : Option Addr) (lc : Nat), e = .returned (.slice la xs.length lc) ∧ xs.length ≤ 13 ∧ (∀ x ∈ xs, WkIn x) ∧ w'.ownsRow (w.heap.size + 1) 67 3 (.slice la xs.length lc) xs.length (wlkC xs)) ∧ CurPost w b (n + 1000) v w' := by
  obtain ⟨i0, hi0, hz0, hz1, hz2⟩ := info_parts infoWalk
  have hlt := curAt_lt hc
  have HP0 := Lib.hid (curPost_start hc hv (.cells #[.slice a d.stops.length c, .slice oa d.lines.length oc] 27))
  obtain ⟨wz, hwz⟩ : ∃ wz : World, wz = w.alloc (.cells #[.slice a d.stops.length c, .slice oa d.lines.length oc] 27) := ⟨_, rfl⟩
  have z0 : wz.cell? ⟨w.heap.size, 0, none⟩ = some (.slice a d.stops.length c) := by rw [hwz]; go_simp
  have hsz : wz.heap.size = w.heap.size + 1 := by rw [hwz]; simp
  rw [← hwz] at HP0
  have HV := Lib.hid HP0.out.2.1
  have hltz : b < wz.heap.size := by omega
  have hnb : (some w.heap.size : Option Nat) ≠ some b := fun e => by injection e with e; omega
  obtain ⟨w1, hw1⟩ : ∃ w1 : World, w1 = wz.alloc (.cells #[] 67) := ⟨_, rfl⟩
  have hlit := World.ownsRow_lit (base := wz.heap.size) (e := 67) (size := 3) wz #[] 0 (Nat.le_refl _) (by decide) (by simp)
  rw [← hw1] at hlit
  have HO : Hid (w1.ownsRow wz.heap.size 67 3 (.slice (some ⟨w.heap.size + 1, 0, none⟩) 0 0) 0 (wlkC [])) := by show World.ownsRow _ _ _ _ _ _ _; rw [← hsz]; exact hlit
  have HP : Hid (CurPost wz b n v w1) := by rw [hw1]; exact curPost_alloc ⟨HP0.out.1, HP0.out.2.1, grown_refl _ _⟩ _
  have HZ := Lib.hid z0
  have HSz := Lib.hid hsz
  have HWZ := Lib.hid hwz
  have HW1 := Lib.hid hw1
  have hwzlt : w.heap.size < wz.heap.size := by omega
  generalize d.stops.length = N at *
  clear hc hv z0 hwz hsz hw1 hlit
  go_enter Try.func109, Try.ntmps109
  go_wp2_with fail
  rw [← HWZ.out, ← HW1.out]
  clear HWZ HW1
  go_loopw [5, 6] (fun q5 q6 wr => ∃ (k m : Nat) (la : Option Addr) (lc : Nat) (xs : List WlkD), q6 = .int .i64 (k : Int) ∧ q5 = .slice la m lc ∧ k ≤ N ∧ m ≤ 12 ∧ Hid (m = xs.length ∧ ∀ x ∈ xs, WkIn x) ∧ Hid (wr.ownsRow wz.heap.size 67 3 (.slice la m lc) m (wlkC xs)) ∧ Hid (CurPost wz b (n + 32 * k) v wr)) (fun _ q6 _ => N - (RowKit.intOf q6).toNat)
  case atStart => exact ⟨0, 0, _, _, [], rfl, rfl, Nat.zero_le _, by omega, ⟨rfl, fun x hx => by simp at hx⟩, HO.out, HP.out⟩
  case round =>
    clear HO HP
    obtain ⟨k, m, la, lc, xs, rfl, rfl, hk, hm, HN, HO, HP⟩ := hrel
    have c0 : wr.cell? ⟨w.heap.size, 0, none⟩ = some (.slice a N c) := HP.out.2.2.cell HZ.out hnb
    by_cases hkN : k < N
    rotate_left
    · have hkI : ¬ (k : Int) < (N : Int) := by omega
      have HPk := Lib.hid (pick_any b (n + 32 * k) v 40 wr HP.out.1 HP.out.2.1 (by omega) (by omega))
      go_wp2_with fail
      go_at_call 42
      refine HPk.out.mono ?_
      rintro e w8 ⟨⟨r, rfl, hr0, hr1⟩, hp⟩
      have HO := Lib.hid (own_cur HO.out hltz hp)
      have HP := Lib.hid (curPost_trans HP.out hp)
      clear hp HPk c0 hr1
      have c0 : w8.cell? ⟨w.heap.size, 0, none⟩ = some (.slice a N c) := HP.out.2.2.cell HZ.out hnb
      by_cases hq0 : r = 0
      · subst hq0
        obtain ⟨wl, hwwl⟩ : ∃ X : World, X = w8.alloc (.cells #[.int .i64 0, .int .i64 1, .int .i64 8] 3) := ⟨_, rfl⟩
        have hltw : b < w8.heap.size := curAt_lt HP.out.1
        have hlo : ListOff wl b (.slice (some ⟨w8.heap.size, 0, none⟩) 3 3) (amB0.map (.int .i64)) := by rw [hwwl]; exact listOff_built w8 b (amB0.map (.int .i64)) 3 hltw (by decide)
        have hp4 : CurPost wz b (n + 32 * k + 2) v wl := by rw [hwwl]; exact curPost_alloc HP.out _
        have HAm := Lib.hid (among_any b (n + 32 * k + 2) v (.slice (some ⟨w8.heap.size, 0, none⟩) 3 3) amB0 wl hp4.1 hp4.2.1 (by omega) hlo (by decide) (by decide) (by decide))
        have HO := Lib.hid (own_later HO.out (show Below w8.heap.size w8 wl by rw [hwwl]; exact (Below.refl _ _).alloc (Nat.le_refl _) _))
        have HP := Lib.hid hp4
        have HWl := Lib.hid hwwl
        clear hltw hlo hp4 hwwl
        go_wp2_with fail
        rw [← HWl.out]
        go_at_call 65
        refine HAm.out.mono ?_
        rintro e w9 ⟨⟨z, hz, rfl⟩, hp⟩
        have hz := amB0_in z hz
        have HO := Lib.hid (own_cur HO.out hltz hp)
        have HP := Lib.hid (curPost_trans HP.out hp)
        clear hp HAm HWl
        clear c0
        have hbuild := build_wlk 0 z 5
        have hzW : wz.heap.size ≤ w9.heap.size := HP.out.2.2.size
        go_wp2_with (at_builtin; refine wpList_append_own _ rfl _ _ 59 rfl wz.heap.size 67 i0 (.agg #[.int .i64 0, .int .i64 0, .int .i64 0]) 3 24 Try.underlying59 hi0 hz0 hz1 hz2 rfl (by decide) (.slice la m lc) m _ rfl (HO.out.alloc _) ⟨w9.heap.size, 0, none⟩ 1 1 (wlkC [⟨0, z, 5⟩]) rfl rfl ?c1 ?c2 ?c3 ?c4 ?c5 ?_)
        case c1 => exact wlkC_one _ ⟨0, z, 5⟩ _
        case c2 => exact wlkC_cells _
        case c3 => unfold maxLen; omega
        case c4 => omega
        case c5 => simp; omega
        intro v' w10 hown' hgrow _
        rw [← wlkC_append] at hown'
        have HPN := Lib.hid (cur_grown HV.out hltz (curPost_alloc HP.out _) hgrow (fun g hg => (HO.out.lt g hg).1))
        obtain ⟨av', cv', rfl⟩ := own_shape hown'
        have HON := Lib.hid hown'
        clear hown' hgrow HO HP
        have hL : m + 1 = (xs ++ [⟨0, z, 5⟩] : List WlkD).length := by simp [HN.out.1]
        go_wp2_with fail
        go_ret
        refine ⟨⟨xs ++ [⟨0, z, 5⟩], av', cv', by rw [← hL]; rfl, by omega, wkIn_snoc HN.out.2 ⟨⟨by show (-10 : Int) ≤ 0; omega, by show (0 : Int) ≤ 200; omega⟩, ⟨by show -10 ≤ z; omega, by show z ≤ 200; omega⟩, ⟨by show (-10 : Int) ≤ 5; omega, by show (5 : Int) ≤ 200; omega⟩⟩, ?_⟩, curPost_mono (curPost_trans HP0.out HPN.out) (by omega)⟩
        rw [← hL]
        exact own_base HON.out (by have := HSz.out; omega)
      by_cases hq1 : r = 1
      · subst hq1
        have hmx := HN.out.1
        subst hmx
        have hws1 : IntKind.i64.wrap ((N : Int) - 2) = (N : Int) - 2 := IntWalk.i64_in _ (by omega)
        have hws2 : IntKind.i64.wrap ((N : Int) - 1) = (N : Int) - 1 := IntWalk.i64_in _ (by omega)
        go_upto_region 14 with fail
        have HPd := Lib.hid (curPost_later HV.out hltz HP.out (Below.refl w8.heap.size w8).drew)
        have HOd : Hid (w8.drew.ownsRow wz.heap.size 67 3 (.slice la xs.length lc) xs.length (wlkC xs)) := own_later HO.out (Below.refl w8.heap.size w8).drew
        have d0 : w8.drew.cell? ⟨w.heap.size, 0, none⟩ = some (.slice a N c) := c0
        clear HP HO c0
        refine wp_region_held_drew (S := (fun w' => w'.cell? ⟨w.heap.size, 0, none⟩ = some (.slice a N c))) (by kernel_rfl) ?_ (fun hHeld => ?_)
        · exact d0
        generalize w8.drew = wd at *
        refine wpAnyH_take (i := 0) (v := ?_) (by simp only [List.getElem?_toArray, List.getElem?_cons_zero]; rfl) (by kernel_rfl) (by kernel_rfl) (by kernel_rfl) (by exact fun _ _ _ h => h) (Or.inl ⟨by rfl, ?_⟩) (by assumption) ?_
        rotate_left
        · intro w' hSw; (try dsimp only at hSw)
          go_simp; try with_reducible rfl
        try simp only [Act.put, List.setIfInBounds_toArray, List.set_cons_zero, List.set_cons_succ]
        refine wpAnyH_take (i := 1) (v := ?_) (by simp only [List.getElem?_toArray, List.getElem?_cons_succ, List.getElem?_cons_zero]; rfl) (by kernel_rfl) (by kernel_rfl) (by kernel_rfl) (by exact fun _ _ _ h => h) (Or.inl ⟨by rfl, ?_⟩) (by assumption) ?_
        rotate_left
        · intro w' hSw; (try dsimp only at hSw)
          go_simp; try with_reducible rfl
        try simp only [Act.put, List.setIfInBounds_toArray, List.set_cons_zero, List.set_cons_succ]
        refine wpAnyH_take (i := 2) (v := ?_) (by simp only [List.getElem?_toArray, List.getElem?_cons_succ, List.getElem?_cons_zero]; rfl) (by kernel_rfl) (by kernel_rfl) (by kernel_rfl) (by exact fun _ _ _ h => h) (Or.inl ⟨by rfl, ?_⟩) (by assumption) ?_
        rotate_left
        · intro w' hSw; (try dsimp only at hSw)
          go_simp; try with_reducible rfl
        try simp only [Act.put, List.setIfInBounds_toArray, List.set_cons_zero, List.set_cons_succ]
        refine wpAnyH_take (i := 3) (v := ?_) (by simp only [List.getElem?_toArray, List.getElem?_cons_succ, List.getElem?_cons_zero]; rfl) (by kernel_rfl) (by kernel_rfl) (by kernel_rfl) (by exact fun _ _ _ h => h) (Or.inl ⟨by rfl, ?_⟩) (by assumption) ?_
        rotate_left
        · intro w' hSw; (try dsimp only at hSw)
          go_simp; try with_reducible rfl
        try simp only [Act.put, List.setIfInBounds_toArray, List.set_cons_zero, List.set_cons_succ]
        refine wpAnyH_take (i := 4) (v := ?_) (by simp only [List.getElem?_toArray, List.getElem?_cons_succ, List.getElem?_cons_zero]; rfl) (by kernel_rfl) (by kernel_rfl) (by kernel_rfl) (by exact fun _ _ _ h => h) (Or.inl ⟨by rfl, ?_⟩) (by assumption) ?_
        rotate_left
        · intro w' hSw; (try dsimp only at hSw)
          go_simp; try with_reducible rfl
        try simp only [Act.put, List.setIfInBounds_toArray, List.set_cons_zero, List.set_cons_succ]
        refine wpAnyH_take (i := 5) (v := ?_) (by simp only [List.getElem?_toArray, List.getElem?_cons_succ, List.getElem?_cons_zero]; rfl) (by kernel_rfl) (by kernel_rfl) (by kernel_rfl) (by exact fun _ _ _ h => h) (Or.inl ⟨by rfl, ?_⟩) (by assumption) ?_
        rotate_left
        · intro w' hSw; (try dsimp only at hSw)
          go_simp; try with_reducible rfl
        try simp only [Act.put, List.setIfInBounds_toArray, List.set_cons_zero, List.set_cons_succ]
        refine wpAnyH_take (i := 6) (v := ?_) (by simp only [List.getElem?_toArray, List.getElem?_cons_succ, List.getElem?_cons_zero]; rfl) (by kernel_rfl) (by kernel_rfl) (by kernel_rfl) (by exact fun _ _ _ h => h) (Or.inl ⟨by rfl, ?_⟩) (by assumption) ?_
        rotate_left
        · intro w' hSw; (try dsimp only at hSw)
          go_simp; try with_reducible rfl
        try simp only [Act.put, List.setIfInBounds_toArray, List.set_cons_zero, List.set_cons_succ]
        refine wpAnyH_take (i := 7) (v := ?_) (by simp only [List.getElem?_toArray, List.getElem?_cons_succ, List.getElem?_cons_zero]; rfl) (by kernel_rfl) (by kernel_rfl) (by kernel_rfl) (by exact fun _ _ _ h => h) (Or.inl ⟨by rfl, ?_⟩) (by assumption) ?_
        rotate_left
        · intro w' hSw; (try dsimp only at hSw)
          go_simp; try with_reducible rfl
        try simp only [Act.put, List.setIfInBounds_toArray, List.set_cons_zero, List.set_cons_succ]
        refine wpAnyH_take (i := 8) (v := ?_) (by simp only [List.getElem?_toArray, List.getElem?_cons_succ, List.getElem?_cons_zero]; rfl) (by kernel_rfl) (by kernel_rfl) (by kernel_rfl) (by exact fun _ _ _ h => h) (Or.inl ⟨by rfl, ?_⟩) (by assumption) ?_
        rotate_left
        · intro w' hSw; (try dsimp only at hSw)
          go_simp; try with_reducible rfl
        try simp only [Act.put, List.setIfInBounds_toArray, List.set_cons_zero, List.set_cons_succ]
        refine wpAnyH_take (i := 9) (v := ?_) (by simp only [List.getElem?_toArray, List.getElem?_cons_succ, List.getElem?_cons_zero]; rfl) (by kernel_rfl) (by kernel_rfl) (by kernel_rfl) (by exact fun _ _ _ h => h) (Or.inl ⟨by rfl, ?_⟩) (by assumption) ?_
        rotate_left
        · intro w' hSw; (try dsimp only at hSw)
          go_simp; try with_reducible rfl
        try simp only [Act.put, List.setIfInBounds_toArray, List.set_cons_zero, List.set_cons_succ]
        refine wpAnyH_ready (rs := [10]) (by kernel_rfl) (by simp) ?_
        refine AllReadyH.cons (by simp only [List.getElem?_toArray, List.getElem?_cons_succ, List.getElem?_cons_zero]; rfl) (fun K hK => ?_) AllReadyH.nil
        go_simp
        obtain ⟨wl, hwl⟩ : ∃ wl : World, wl = wd.alloc (.cells #[.int .i64 0, .int .i64 120, .int .i64 121] 3) := ⟨_, rfl⟩
        have hltw : b < wd.heap.size := curAt_lt HPd.out.1
        have hlo : ListOff wl b (.slice (some ⟨wd.heap.size, 0, none⟩) 3 3) (amM1.map (.int .i64)) := by rw [hwl]; exact listOff_built wd b (amM1.map (.int .i64)) 3 hltw (by decide)
        have hp4 := curPost_alloc HPd.out (.cells #[.int .i64 0, .int .i64 120, .int .i64 121] 3)
        rw [← hwl] at hp4
        have HAm := Lib.hid (among_any b _ v (.slice (some ⟨wd.heap.size, 0, none⟩) 3 3) amM1 wl hp4.1 hp4.2.1 (by omega) hlo (by decide) (by decide) (by decide))
        have hbl : Below wd.heap.size wd wl := by rw [hwl]; exact (Below.refl _ _).alloc (Nat.le_refl _) _
        have HP := Lib.hid hp4
        have HO := Lib.hid (own_later HOd.out hbl)
        have hS := bkeep hbl d0
        rw [← hwl]
        clear hwl hltw hlo hp4 hbl HPd HOd d0
        refine hK.out _ _ hS (fun hHa1 => ?_)
        clear hK K
        try simp only [Act.put, List.setIfInBounds_toArray, List.set_cons_zero, List.set_cons_succ]
        refine wpAnyH_ready (rs := [11]) (by kernel_rfl) (by simp) ?_
        refine AllReadyH.cons (by simp only [List.getElem?_toArray, List.getElem?_cons_succ, List.getElem?_cons_zero]; rfl) (fun K hK => ?_) AllReadyH.nil
        go_simp
        go_at_call 65
        refine HAm.out.mono ?_
        rintro e v2 ⟨⟨z, hz, rfl⟩, hp⟩
        have hz := amM1_in z hz
        have HO := Lib.hid (own_cur HO.out hltz hp)
        have HP := Lib.hid (curPost_trans HP.out hp)
        have hS := HP.out.2.2.cell HZ.out hnb
        have hbuild := build_wlk ((N : Int) - 2) ((N : Int) - 1) z
        clear hp HAm
        go_wp2_with fail
        refine hK.out _ _ hS (fun hHa2 => ?_)
        clear hK K
        try simp only [Act.put, List.setIfInBounds_toArray, List.set_cons_zero, List.set_cons_succ]
        refine wpAnyH_take (i := 12) (v := ?_) (by simp only [List.getElem?_toArray, List.getElem?_cons_succ, List.getElem?_cons_zero]; rfl) (by kernel_rfl) (by kernel_rfl) (by kernel_rfl) (by exact fun _ _ _ h => h) (Or.inl ⟨by rfl, ?_⟩) (by assumption) ?_
        rotate_left
        · intro w' hSw; (try dsimp only at hSw)
          go_simp; try with_reducible rfl
        try simp only [Act.put, List.setIfInBounds_toArray, List.set_cons_zero, List.set_cons_succ]
        refine wpAnyH_ready (rs := [13]) (by kernel_rfl) (by simp) ?_
        refine AllReadyH.cons (by simp only [List.getElem?_toArray, List.getElem?_cons_succ, List.getElem?_cons_zero]; rfl) (fun K hK => ?_) AllReadyH.nil
        go_simp
        obtain ⟨wk, hwk⟩ : ∃ wk : World, wk = v2.alloc (.cells #[.int .i64 ((N : Int) - 2), .int .i64 ((N : Int) - 1), .int .i64 z] 67) := ⟨_, rfl⟩
        have hbl : Below v2.heap.size v2 wk := by rw [hwk]; exact (Below.refl _ _).alloc (Nat.le_refl _) _
        have hyk : ∀ j u, (wlkC [⟨(N : Int) - 2, (N : Int) - 1, z⟩])[j]? = some u → wk.cell? ((⟨v2.heap.size, 0, none⟩ : Addr).add j) = some u := by rw [hwk]; exact wlkC_one v2 ⟨(N : Int) - 2, (N : Int) - 1, z⟩ _
        have HO := Lib.hid (own_later HO.out hbl)
        have HP := Lib.hid (curPost_later HV.out hltz HP.out hbl)
        have hS := bkeep hbl hS
        rw [← hwk]
        have HYk := Lib.hid hyk
        clear hwk hbl hyk
        refine hK.out _ _ hS (fun hHa3 => ?_)
        clear hK K
        try simp only [Act.put, List.setIfInBounds_toArray, List.set_cons_zero, List.set_cons_succ]
        refine wpAnyH_ready (rs := [14]) (by kernel_rfl) (by simp) ?_
        refine AllReadyH.cons (by simp only [List.getElem?_toArray, List.getElem?_cons_succ, List.getElem?_cons_zero]; rfl) (fun K hK => ?_) AllReadyH.nil
        obtain ⟨v', w10, hrun, hown, hgr⟩ := run_append_wlk wk wz.heap.size (.slice la xs.length lc) xs HO.out v2.heap.size ⟨(N : Int) - 2, (N : Int) - 1, z⟩ HYk.out (by omega) HP.out.2.2.size
        have HP := Lib.hid (cur_grown HV.out hltz HP.out hgr (fun g hg => (HO.out.lt g hg).1))
        obtain ⟨av', cv', rfl⟩ := own_shape hown
        have HO := Lib.hid hown
        have hS := HP.out.2.2.cell HZ.out hnb
        clear hown hgr HYk
        refine step_append_run rfl (.tmp 54) (.tmp 67) 59 rfl rfl rfl hrun ?_
        clear hrun
        refine hK.out _ _ hS (fun hHa4 => ?_)
        clear hK K
        try simp only [Act.put, List.setIfInBounds_toArray, List.set_cons_zero, List.set_cons_succ]
        refine wpAnyH_take (i := 15) (v := ?_) (by simp only [List.getElem?_toArray, List.getElem?_cons_succ, List.getElem?_cons_zero]; rfl) (by kernel_rfl) (by kernel_rfl) (by kernel_rfl) (by exact fun _ _ _ h => h) (Or.inl ⟨by rfl, ?_⟩) (by assumption) ?_
        rotate_left
        · intro w' hSw; (try dsimp only at hSw)
          go_simp; try with_reducible rfl
        try simp only [Act.put, List.setIfInBounds_toArray, List.set_cons_zero, List.set_cons_succ]
        refine wpAnyH_done (by kernel_rfl) ?_ _
        clear hHeld hS
        have hL : xs.length + 1 = (xs ++ [(⟨(N : Int) - 2, (N : Int) - 1, z⟩ : WlkD)]).length := by simp
        go_wp2_with fail
        go_ret
        refine ⟨⟨xs ++ [(⟨(N : Int) - 2, (N : Int) - 1, z⟩ : WlkD)], av', cv', by rw [← hL]; rfl, by omega, wkIn_snoc HN.out.2 ⟨⟨by show -10 ≤ (N : Int) - 2; omega, by show (N : Int) - 2 ≤ 200; omega⟩, ⟨by show -10 ≤ (N : Int) - 1; omega, by show (N : Int) - 1 ≤ 200; omega⟩, ⟨by show -10 ≤ z; omega, by show z ≤ 200; omega⟩⟩, ?_⟩, curPost_mono (curPost_trans HP0.out HP.out) (by omega)⟩
        rw [← hL]
        exact own_base HO.out (by have := HSz.out; omega)
      have hb0 : (r == 0) = false := by simpa using hq0
      have hb1 : (r == 1) = false := by simpa using hq1
      have hL : m = (xs : List WlkD).length := by simp [HN.out.1]
      go_wp2_with fail
      go_ret
      refine ⟨⟨xs, la, lc, by rw [← hL]; rfl, by omega, HN.out.2, ?_⟩, curPost_mono (curPost_trans HP0.out HP.out) (by omega)⟩
      rw [← hL]
      exact own_base HO.out (by have := HSz.out; omega)
    · have hkI : (k : Int) < (N : Int) := by omega
      have hwk : IntKind.i64.wrap ((k : Int) + 1) = (k : Int) + 1 := IntWalk.i64_in _ (by omega)
      obtain ⟨wo, rfl⟩ : ∃ wo : World, wo = wr := ⟨_, rfl⟩
      go_wp2_with fail
      go_loopw [5, 7] (fun q5 q7 wr => ∃ (j m : Nat) (la : Option Addr) (lc : Nat) (xs : List WlkD), q7 = .int .i64 ((k : Int) + 1 + (j : Int)) ∧ q5 = .slice la m lc ∧ k + 1 + j ≤ N ∧ m ≤ 12 ∧ Hid (m = xs.length ∧ ∀ x ∈ xs, WkIn x) ∧ Hid (wr.ownsRow wz.heap.size 67 3 (.slice la m lc) m (wlkC xs)) ∧ Hid (CurPost wz b (n + 32 * k + 4 * j) v wr)) (fun _ q7 _ => N - (RowKit.intOf q7).toNat)
      case atStart => exact ⟨0, m, la, lc, xs, by simp, rfl, by omega, hm, HN.out, HO.out, HP.out⟩
      case round =>
        clear HO HP HN c0 hm
        obtain ⟨j, m, la, lc, xs, rfl, rfl, hj, hm, HN, HO, HP⟩ := hrel
        have c0 : wr.cell? ⟨w.heap.size, 0, none⟩ = some (.slice a N c) := HP.out.2.2.cell HZ.out hnb
        by_cases hjN : k + 1 + j < N
        rotate_left
        · have hjI : ¬ (k : Int) + 1 + (j : Int) < (N : Int) := by omega
          go_wp2_with fail
          exact ⟨⟨k + 1, m, la, lc, xs, by first | rfl | (congr 1; push_cast; omega), rfl, by omega, by omega, HN.out, HO.out, curPost_mono HP.out (by omega)⟩, by simp [RowKit.intOf]; omega⟩
        · have hjI : (k : Int) + 1 + (j : Int) < (N : Int) := by omega
          have HOn := Lib.hid (one_any b (n + 32 * k + 4 * j) v 3 wr HP.out.1 HP.out.2.1 (by omega) (by omega))
          have hwj : IntKind.i64.wrap ((k : Int) + 1 + (j : Int) + 1) = (k : Int) + 1 + (j : Int) + 1 := IntWalk.i64_in _ (by omega)
          go_wp2_with fail
          go_at_call 64
          refine HOn.out.mono ?_
          rintro e w3 ⟨⟨r, rfl⟩, hp⟩
          have HO := Lib.hid (own_cur HO.out hltz hp)
          have HP := Lib.hid (curPost_trans HP.out hp)
          clear hp HOn c0
          cases r
          · go_wp2_with fail
            exact ⟨⟨j + 1, m, la, lc, xs, by first | rfl | (congr 1; push_cast; omega), rfl, by omega, by omega, HN.out, HO.out, curPost_mono HP.out (by omega)⟩, by simp [RowKit.intOf]; omega⟩
          by_cases hm12 : m < 12
          rotate_left
          · have hmI : ¬ (m : Int) < 12 := by omega
            go_wp2_with fail
            exact ⟨⟨j + 1, m, la, lc, xs, by first | rfl | (congr 1; push_cast; omega), rfl, by omega, by omega, HN.out, HO.out, curPost_mono HP.out (by omega)⟩, by simp [RowKit.intOf]; omega⟩
          · have hmI : (m : Int) < 12 := by omega
            obtain ⟨wl, hwwl⟩ : ∃ X : World, X = w3.alloc (.cells #[.int .i64 1, .int .i64 2, .int .i64 3, .int .i64 5, .int .i64 8, .int .i64 20] 3) := ⟨_, rfl⟩
            have hltw : b < w3.heap.size := curAt_lt HP.out.1
            have hlo : ListOff wl b (.slice (some ⟨w3.heap.size, 0, none⟩) 6 6) (amMi.map (.int .i64)) := by rw [hwwl]; exact listOff_built w3 b (amMi.map (.int .i64)) 3 hltw (by decide)
            have hp4 : CurPost wz b (n + 32 * k + 4 * j + 2) v wl := by rw [hwwl]; exact curPost_alloc HP.out _
            have HAm := Lib.hid (among_any b (n + 32 * k + 4 * j + 2) v (.slice (some ⟨w3.heap.size, 0, none⟩) 6 6) amMi wl hp4.1 hp4.2.1 (by omega) hlo (by decide) (by decide) (by decide))
            have HO := Lib.hid (own_later HO.out (show Below w3.heap.size w3 wl by rw [hwwl]; exact (Below.refl _ _).alloc (Nat.le_refl _) _))
            have HP := Lib.hid hp4
            have HWl := Lib.hid hwwl
            clear hltw hlo hp4 hwwl
            go_wp2_with fail
            rw [← HWl.out]
            go_at_call 65
            refine HAm.out.mono ?_
            rintro e w4 ⟨⟨z, hz, rfl⟩, hp⟩
            have hz := amMi_in z hz
            have HO := Lib.hid (own_cur HO.out hltz hp)
            have HP := Lib.hid (curPost_trans HP.out hp)
            clear hp HAm HWl
            have hbuild := build_wlk (k : Int) ((k : Int) + 1 + (j : Int)) z
            have hzW : wz.heap.size ≤ w4.heap.size := HP.out.2.2.size
            go_wp2_with (at_builtin; refine wpList_append_own _ rfl _ _ 59 rfl wz.heap.size 67 i0 (.agg #[.int .i64 0, .int .i64 0, .int .i64 0]) 3 24 Try.underlying59 hi0 hz0 hz1 hz2 rfl (by decide) (.slice la m lc) m _ rfl (HO.out.alloc _) ⟨w4.heap.size, 0, none⟩ 1 1 (wlkC [⟨(k : Int), (k : Int) + 1 + (j : Int), z⟩]) rfl rfl ?c1 ?c2 ?c3 ?c4 ?c5 ?_)
            case c1 => exact wlkC_one _ ⟨(k : Int), (k : Int) + 1 + (j : Int), z⟩ _
            case c2 => exact wlkC_cells _
            case c3 => unfold maxLen; omega
            case c4 => omega
            case c5 => simp; omega
            intro v' w5 hown' hgrow _
            rw [← wlkC_append] at hown'
            have HPN := Lib.hid (cur_grown HV.out hltz (curPost_alloc HP.out _) hgrow (fun g hg => (HO.out.lt g hg).1))
            obtain ⟨av', cv', rfl⟩ := own_shape hown'
            have HON := Lib.hid hown'
            clear hown' hgrow HO HP
            go_wp2_with fail
            exact ⟨⟨j + 1, m + 1, av', cv', xs ++ [(⟨(k : Int), (k : Int) + 1 + (j : Int), z⟩ : WlkD)], by first | rfl | (congr 1; push_cast; omega), rfl, by omega, by omega, ⟨by simp [HN.out.1], wkIn_snoc HN.out.2 ⟨⟨by show -10 ≤ (k : Int); omega, by show (k : Int) ≤ 200; omega⟩, ⟨by show -10 ≤ (k : Int) + 1 + (j : Int); omega, by show (k : Int) + 1 + (j : Int) ≤ 200; omega⟩, ⟨by show -10 ≤ z; omega, by show z ≤ 200; omega⟩⟩⟩, HON.out, curPost_mono HPN.out (by omega)⟩, by simp [RowKit.intOf]; omega⟩
end Go.Proofs.Ytemejcbilhcebaa

import Derived.Test.YtemejcbilhcebaaFitSpec
import Derived.Test.YtemejcbilhcebaaCurAmong
import Derived.Test.YtemejcbilhcebaaCurPost
namespace Go.Proofs.Ytemejcbilhcebaa
open Go.RowKit
set_option linter.unusedVariables false
set_option linter.unusedSimpArgs false

theorem build_cal (f t wd : Int) (w : World) : (Instr.build 46 #[(0, .int .i64 f), (1, .int .i64 t), (2, .int .i64 wd)]).run Try.prog w = .ok (.agg #[.int .i64 f, .int .i64 t, .int .i64 wd, .slice none 0 0, .slice none 0 0]) w :=
  run_build w 46 #[(0, .int .i64 f), (1, .int .i64 t), (2, .int .i64 wd)] #[.int .i64 f, .int .i64 t, .int .i64 wd, .slice none 0 0, .slice none 0 0] (by kernel_rfl)
def amF : List Int := [0, 3, 100, 3600]
def amT : List Int := [0, 6, 13, 20, 40]
def amW : List Int := [31, 96, 127, 0, 65, 21]
def amU : List Int := [-1, 3650, 3651]
def amX : List Int := [-1, 128]
theorem amF_in : ∀ x ∈ amF, 0 ≤ x ∧ x ≤ 3600 := by decide
theorem amT_in : ∀ x ∈ amT, 0 ≤ x ∧ x ≤ 40 := by decide
theorem amW_in : ∀ x ∈ amW, 0 ≤ x ∧ x ≤ 127 := by decide
theorem amU_in : ∀ x ∈ amU, -1 ≤ x ∧ x ≤ 3651 := by decide
theorem amX_in : ∀ x ∈ amX, -1 ≤ x ∧ x ≤ 128 := by decide

def AnyC (c : CalD) : Prop := (0 ≤ c.frm ∧ c.frm ≤ 3600) ∧ (-1 ≤ c.too ∧ c.too ≤ 3651) ∧ (-1 ≤ c.wd ∧ c.wd ≤ 128) ∧ c.added.length + c.removed.length ≤ 6 ∧ (∀ x ∈ c.added, 0 ≤ x ∧ x ≤ 3652) ∧ ∀ x ∈ c.removed, 0 ≤ x ∧ x ≤ 3652

def CalO (l : Nat) (w : World) (c : CalD) (av rv : Value) : Prop := w.ownsRow l 3 1 av c.added.length (ints c.added) ∧ w.ownsRow l 3 1 rv c.removed.length (ints c.removed)
theorem CalO.at {l : Nat} {w : World} {c : CalD} {av rv : Value} (h : CalO l w c av rv) : CalAt w (.agg #[.int .i64 c.frm, .int .i64 c.too, .int .i64 c.wd, av, rv]) c := ⟨av, rv, rfl, rowAt_own h.1, rowAt_own h.2⟩
theorem CalO.later {l : Nat} {w w' : World} {c : CalD} {av rv : Value} (h : CalO l w c av rv) (hb : Below w.heap.size w w') : CalO l w' c av rv := ⟨own_later h.1 hb, own_later h.2 hb⟩
theorem CalO.cur {l b n : Nat} {w w' : World} {v : Value} {c : CalD} {av rv : Value} (h : CalO l w c av rv) (hp : CurPost w b n v w') (hb : b < l) : CalO l w' c av rv := ⟨own_cur h.1 hb hp, own_cur h.2 hb hp⟩
theorem CalO.base {l l' : Nat} {w : World} {c : CalD} {av rv : Value} (h : CalO l w c av rv) (hl : l' ≤ l) : CalO l' w c av rv := ⟨own_base h.1 hl, own_base h.2 hl⟩
theorem CalO.set {l : Nat} {w : World} {c : CalD} {av rv : Value} (h : CalO l w c av rv) (q i : Nat) (hq : q < l) (u : Value) : CalO l (w.setCell ⟨q, i, none⟩ u) c av rv :=
  ⟨ownsRow_setCell_below h.1 (by dsimp only; omega) _, ownsRow_setCell_below h.2 (by dsimp only; omega) _⟩
theorem FitBox.cur {w w' : World} {l xb b n : Nat} {v : Value} {c : CalD} {av rv : Value} (h : FitBox w l xb c av rv) (hp : CurPost w b n v w') (hl : b < l) (hx : b ≠ xb) : FitBox w' l xb c av rv := by
  have hlt := h.lt
  obtain ⟨c0, c1, c2, c3, c4⟩ := h.box
  have hs : ∀ r, (some b : Option Nat) = some r → r ≠ xb := fun r e e2 => by injection e with e; omega
  have hne : (some xb : Option Nat) ≠ some b := fun e => by injection e with e; omega
  exact ⟨⟨hp.2.2.cell c0 hne, hp.2.2.cell c1 hne, hp.2.2.cell c2 hne, hp.2.2.cell c3 hne, hp.2.2.cell c4 hne⟩, fun o => by rw [World.frozen?_of_block (a := ⟨xb, o, none⟩) (hp.2.2.block xb hlt hne)]; exact h.free o, own_cur h.adds hl hp, own_cur h.rems hl hp, h.apart, h.offA, h.offR⟩
theorem FitBox.setT {w : World} {l b : Nat} {c : CalD} {av rv : Value} (h : FitBox w l b c av rv) (z : Int) : FitBox (w.setCell ⟨b, 1, none⟩ (.int .i64 z)) l b ⟨c.frm, z, c.wd, c.added, c.removed⟩ av rv := by
  obtain ⟨c0, c1, c2, c3, c4⟩ := h.box
  refine ⟨⟨?_, ?_, ?_, ?_, ?_⟩, fun i => by simpa using h.free i, own_other h.adds h.offA _, own_other h.rems h.offR _, h.apart, h.offA, h.offR⟩
  · rw [set_other (by decide)]; exact c0
  · exact set_same c1
  · rw [set_other (by decide)]; exact c2
  · rw [set_other (by decide)]; exact c3
  · rw [set_other (by decide)]; exact c4

set_option maxRecDepth 100000 in
set_option maxHeartbeats 16000000 in
theorem calendar_any (b n : Nat) (v : Value) (w : World) (hc : CurAt w b v n) (hv : CodeOff w b v) (hn : n ≤ 500000) :
    Calls Try.prog 62 #[.pointer (some ⟨b, 0, none⟩)] w fun e w' => (∃ (c : CalD) (av rv : Value), e = .returned (.agg #[.int .i64 c.frm, .int .i64 c.too, .int .i64 c.wd, av, rv]) ∧ AnyC c ∧ CalO (w.heap.size + 1) w' c av rv) ∧ CurPost w b (n + 200) v w' := by
  obtain ⟨i0, hi', iz0, iz1, iz2⟩ := info_parts infoInt
  have hlt := curAt_lt hc
  have HV0 := Lib.hid hv
  have HP0 := Lib.hid (curPost_start hc hv (.cells #[.int .i64 0, .int .i64 0, .int .i64 0, .slice none 0 0, .slice none 0 0] 46))
  have hzz : CalBox (w.alloc (.cells #[.int .i64 0, .int .i64 0, .int .i64 0, .slice none 0 0, .slice none 0 0] 46)) w.heap.size calZ (.slice none 0 0) (.slice none 0 0) := calBox_new w calZ (.slice none 0 0) (.slice none 0 0) 46
  have hzf : ∀ o, (w.alloc (.cells #[.int .i64 0, .int .i64 0, .int .i64 0, .slice none 0 0, .slice none 0 0] 46)).frozen? ⟨w.heap.size, o, none⟩ = false := fun o => by go_simp
  have hsz : (w.alloc (.cells #[.int .i64 0, .int .i64 0, .int .i64 0, .slice none 0 0, .slice none 0 0] 46)).heap.size = w.heap.size + 1 := World.size_alloc _ _
  obtain ⟨wz, hwz⟩ : ∃ wz : World, wz = w.alloc (.cells #[.int .i64 0, .int .i64 0, .int .i64 0, .slice none 0 0, .slice none 0 0] 46) := ⟨_, rfl⟩
  rw [← hwz] at hzz hzf hsz HP0
  have HZ := Lib.hid (And.intro hzz hzf)
  have HV := Lib.hid HP0.out.2.1
  have HP : Hid (CurPost wz b n v wz) := ⟨HP0.out.1, HP0.out.2.1, grown_refl _ _⟩
  have HWZ := Lib.hid hwz
  have hltz : b < wz.heap.size := by omega
  clear hc hv hzz hzf hwz
  go_enter Try.func62, Try.ntmps62
  obtain ⟨wa, hwwa⟩ : ∃ X : World, X = wz.alloc (.cells #[.int .i64 0, .int .i64 3, .int .i64 100, .int .i64 3600] 3) := ⟨_, rfl⟩
  have hltw : b < wz.heap.size := curAt_lt HP.out.1
  have hlo : ListOff wa b (.slice (some ⟨wz.heap.size, 0, none⟩) 4 4) (amF.map (.int .i64)) := by rw [hwwa]; exact listOff_built wz b (amF.map (.int .i64)) 3 hltw (by decide)
  have hp4 : CurPost wz b (n) v wa := by rw [hwwa]; exact curPost_alloc HP.out _
  have hAm := (among_any b (n) v (.slice (some ⟨wz.heap.size, 0, none⟩) 4 4) amF wa hp4.1 hp4.2.1 (by omega) hlo (by decide) (by decide) (by decide))
  rw [hsz] at hAm
  have HAm := Lib.hid hAm
  clear hAm
  have HP := Lib.hid hp4
  have HWl := Lib.hid hwwa
  clear hltw hlo hp4 hwwa
  go_wp2_with fail
  rw [← HWZ.out]
  rw [← HWl.out]
  go_at_call 65
  refine HAm.out.mono ?_
  rintro e w1 ⟨⟨f, hf, rfl⟩, hp⟩
  have hf := amF_in f hf
  have HP := Lib.hid (curPost_trans HP.out hp)
  clear hp HAm HWl
  obtain ⟨wb, hwwb⟩ : ∃ X : World, X = w1.alloc (.cells #[.int .i64 0, .int .i64 6, .int .i64 13, .int .i64 20, .int .i64 40] 3) := ⟨_, rfl⟩
  have hltw : b < w1.heap.size := curAt_lt HP.out.1
  have hlo : ListOff wb b (.slice (some ⟨w1.heap.size, 0, none⟩) 5 5) (amT.map (.int .i64)) := by rw [hwwb]; exact listOff_built w1 b (amT.map (.int .i64)) 3 hltw (by decide)
  have hp4 : CurPost wz b (n + 2) v wb := by rw [hwwb]; exact curPost_alloc HP.out _
  have HAm := Lib.hid (among_any b (n + 2) v (.slice (some ⟨w1.heap.size, 0, none⟩) 5 5) amT wb hp4.1 hp4.2.1 (by omega) hlo (by decide) (by decide) (by decide))
  have HP := Lib.hid hp4
  have HWl := Lib.hid hwwb
  clear hltw hlo hp4 hwwb
  go_wp2_with fail
  rw [← HWl.out]
  go_at_call 65
  refine HAm.out.mono ?_
  rintro e w2 ⟨⟨t, ht, rfl⟩, hp⟩
  have ht := amT_in t ht
  have HP := Lib.hid (curPost_trans HP.out hp)
  clear hp HAm HWl
  have hwr : IntKind.i64.wrap (f + t) = f + t := IntWalk.i64_in _ (by omega)
  obtain ⟨wc, hwwc⟩ : ∃ X : World, X = w2.alloc (.cells #[.int .i64 31, .int .i64 96, .int .i64 127, .int .i64 0, .int .i64 65, .int .i64 21] 3) := ⟨_, rfl⟩
  have hltw : b < w2.heap.size := curAt_lt HP.out.1
  have hlo : ListOff wc b (.slice (some ⟨w2.heap.size, 0, none⟩) 6 6) (amW.map (.int .i64)) := by rw [hwwc]; exact listOff_built w2 b (amW.map (.int .i64)) 3 hltw (by decide)
  have hp4 : CurPost wz b (n + 2 + 2) v wc := by rw [hwwc]; exact curPost_alloc HP.out _
  have HAm := Lib.hid (among_any b (n + 2 + 2) v (.slice (some ⟨w2.heap.size, 0, none⟩) 6 6) amW wc hp4.1 hp4.2.1 (by omega) hlo (by decide) (by decide) (by decide))
  have HP := Lib.hid hp4
  have HWl := Lib.hid hwwc
  clear hltw hlo hp4 hwwc
  have hwr2 := hwr
  go_wp2_with fail
  rw [← HWl.out]
  go_at_call 65
  refine HAm.out.mono ?_
  rintro e w3 ⟨⟨wd, hwd, rfl⟩, hp⟩
  have hwd := amW_in wd hwd
  have HP := Lib.hid (curPost_trans HP.out hp)
  clear hp HAm HWl
  have hbuild := build_cal f (f + t) wd
  obtain ⟨T, hT⟩ : ∃ T, f + t = T := ⟨_, rfl⟩
  rw [hT] at hwr hwr2 hbuild
  try rw [hT]
  have hT1 : f ≤ T ∧ T ≤ f + 40 := by omega
  obtain ⟨w4, hw4⟩ : ∃ X : World, X = w3.alloc (.cells #[.int .i64 f, .int .i64 T, .int .i64 wd, .slice none 0 0, .slice none 0 0] 46) := ⟨_, rfl⟩
  have hz3 : wz.heap.size ≤ w3.heap.size := HP.out.2.2.size
  have HF : Hid (FitBox w4 wz.heap.size w3.heap.size ⟨f, T, wd, [], []⟩ (.slice none 0 0) (.slice none 0 0)) := by
    rw [hw4]
    exact ⟨calBox_new w3 ⟨f, T, wd, [], []⟩ (.slice none 0 0) (.slice none 0 0) _, fun o => by go_simp, World.ownsRow_nil _ _ _ _, World.ownsRow_nil _ _ _ _, .inl rfl, by simp [Value.ownBlock], by simp [Value.ownBlock]⟩
  have HP : Hid (CurPost wz b (n + 6) v w4) := by rw [hw4]; exact curPost_mono (curPost_alloc HP.out _) (by omega)
  have HW4 := Lib.hid hw4
  have p0 : w4.cell? ⟨w3.heap.size, 0, none⟩ = some (.int .i64 f) := HF.out.box.1
  have hwz1 : w.heap.size < wz.heap.size := by omega
  have HSz := Lib.hid hsz
  clear hT ht hw4 hsz
  go_wp2_with fail
  rw [← HW4.out]
  generalize w3.heap.size = xb at *
  have hxb : wz.heap.size ≤ xb := hz3
  have hxb2 : xb ≠ b := by omega
  have hzb : (some w.heap.size : Option Nat) ≠ some b := fun e => by injection e with e; omega
  have hzb2 : w.heap.size ≠ b := by omega
  clear HW4 p0
  go_loopw [5] (fun q wr => ∃ (k na nr : Nat) (a1 : Option Addr) (c1 : Nat) (a2 : Option Addr) (c2 : Nat) (xa xr : List Int), q = .int .i64 (f + (k : Int)) ∧ k ≤ 41 ∧ na + nr ≤ 5 ∧ Hid (na = xa.length ∧ nr = xr.length ∧ (∀ x ∈ xa, 0 ≤ x ∧ x ≤ 3652) ∧ ∀ x ∈ xr, 0 ≤ x ∧ x ≤ 3652) ∧ Hid (FitBox wr wz.heap.size xb ⟨f, T, wd, xa, xr⟩ (.slice a1 na c1) (.slice a2 nr c2)) ∧ Hid (CurPost wz b (n + 6 + 2 * k) v wr)) (fun q _ => (3700 - RowKit.intOf q).toNat)
  case atStart => exact ⟨0, 0, 0, _, _, _, _, [], [], by simp, by omega, by omega, ⟨rfl, rfl, fun x hx => by simp at hx, fun x hx => by simp at hx⟩, HF.out, HP.out⟩
  case round =>
    clear HF HP
    obtain ⟨k, na, nr, a1, c1, a2, c2, xa, xr, rfl, hk, hnn, HN, HF, HP⟩ := hrel
    obtain ⟨p0, p1, p2, p3, p4⟩ := HF.out.box
    have p0 : wr.cell? ⟨xb, 0, none⟩ = some (.int .i64 f) := p0
    have p1 : wr.cell? ⟨xb, 1, none⟩ = some (.int .i64 T) := p1
    have p2 : wr.cell? ⟨xb, 2, none⟩ = some (.int .i64 wd) := p2
    have pf := HF.out.free
    have hlen : (0 : Int) ≤ (na : Int) + (nr : Int) ∧ (na : Int) + (nr : Int) ≤ 5 := by omega
    have hwl : IntKind.i64.wrap ((na : Int) + (nr : Int)) = (na : Int) + (nr : Int) := IntWalk.i64_in _ (by omega)
    by_cases hc1 : f + (k : Int) ≤ T
    rotate_left
    · have HPk := Lib.hid (pick_any b (n + 6 + 2 * k) v 40 wr HP.out.1 HP.out.2.1 (by omega) (by omega))
      go_wp2_with fail
      go_at_call 42
      refine HPk.out.mono ?_
      rintro e w8 ⟨⟨r, rfl, hr0, hr1⟩, hp⟩
      have hr2 := hr1 (by omega)
      have HF := Lib.hid (HF.out.cur hp hltz hxb2.symm)
      have HP := Lib.hid (curPost_trans HP.out hp)
      clear hp HPk p0 p1 p2 p3 p4 pf hr1
      obtain ⟨p0, p1, p2, p3, p4⟩ := HF.out.box
      have p0 : w8.cell? ⟨xb, 0, none⟩ = some (.int .i64 f) := p0
      have p1 : w8.cell? ⟨xb, 1, none⟩ = some (.int .i64 T) := p1
      have p2 : w8.cell? ⟨xb, 2, none⟩ = some (.int .i64 wd) := p2
      have pf := HF.out.free
      by_cases hq0 : r = 0
      · subst hq0
        obtain ⟨wl, hwwl⟩ : ∃ X : World, X = w8.alloc (.cells #[.int .i64 (-1), .int .i64 3650, .int .i64 3651] 3) := ⟨_, rfl⟩
        have hltw : b < w8.heap.size := curAt_lt HP.out.1
        have hlo : ListOff wl b (.slice (some ⟨w8.heap.size, 0, none⟩) 3 3) (amU.map (.int .i64)) := by rw [hwwl]; exact listOff_built w8 b (amU.map (.int .i64)) 3 hltw (by decide)
        have hp4 : CurPost wz b (n + 6 + 2 * k + 2) v wl := by rw [hwwl]; exact curPost_alloc HP.out _
        have HAm := Lib.hid (among_any b (n + 6 + 2 * k + 2) v (.slice (some ⟨w8.heap.size, 0, none⟩) 3 3) amU wl hp4.1 hp4.2.1 (by omega) hlo (by decide) (by decide) (by decide))
        have HP := Lib.hid hp4
        have HWl := Lib.hid hwwl
        clear hltw hlo hp4 hwwl
        go_wp2_with fail
        rw [← HWl.out]
        go_at_call 65
        refine HAm.out.mono ?_
        rintro e w9 ⟨⟨z, hz, rfl⟩, hp⟩
        have hz := amU_in z hz
        have HF := Lib.hid ((HF.out.keep (show Below w8.heap.size w8 wl by rw [HWl.out]; exact (Below.refl _ _).alloc (Nat.le_refl _) _)).cur hp hltz hxb2.symm)
        have HP := Lib.hid (curPost_trans HP.out hp)
        clear hp HAm HWl p0 p1 p2 p3 p4 pf
        obtain ⟨p0, p1, p2, p3, p4⟩ := HF.out.box
        have p0 : w9.cell? ⟨xb, 0, none⟩ = some (.int .i64 f) := p0
        have p1 : w9.cell? ⟨xb, 1, none⟩ = some (.int .i64 T) := p1
        have p2 : w9.cell? ⟨xb, 2, none⟩ = some (.int .i64 wd) := p2
        have pf := HF.out.free
        have HFN := Lib.hid (HF.out.setT z)
        have HPN := Lib.hid (curPost_set (o := 1) (u := .int .i64 z) HV.out HP.out hxb hxb2)
        have HRes := Lib.hid (And.intro HFN.out.box HFN.out.free)
        have hCO : CalO wz.heap.size (w9.setCell ⟨xb, 1, none⟩ (.int .i64 z)) ⟨f, z, wd, xa, xr⟩ (.slice a1 na c1) (.slice a2 nr c2) := ⟨HFN.out.adds, HFN.out.rems⟩
        have HCO := Lib.hid hCO
        have z0 : (w9.setCell ⟨xb, 1, none⟩ (.int .i64 z)).cell? ⟨w.heap.size, 0, none⟩ = some (.int .i64 0) := HPN.out.2.2.cell HZ.out.1.1 hzb
        have z1 : (w9.setCell ⟨xb, 1, none⟩ (.int .i64 z)).cell? ⟨w.heap.size, 1, none⟩ = some (.int .i64 0) := HPN.out.2.2.cell HZ.out.1.2.1 hzb
        have z2 : (w9.setCell ⟨xb, 1, none⟩ (.int .i64 z)).cell? ⟨w.heap.size, 2, none⟩ = some (.int .i64 0) := HPN.out.2.2.cell HZ.out.1.2.2.1 hzb
        have z3 : (w9.setCell ⟨xb, 1, none⟩ (.int .i64 z)).cell? ⟨w.heap.size, 3, none⟩ = some (.slice none 0 0) := HPN.out.2.2.cell HZ.out.1.2.2.2.1 hzb
        have z4 : (w9.setCell ⟨xb, 1, none⟩ (.int .i64 z)).cell? ⟨w.heap.size, 4, none⟩ = some (.slice none 0 0) := HPN.out.2.2.cell HZ.out.1.2.2.2.2 hzb
        have zf : ∀ o, (w9.setCell ⟨xb, 1, none⟩ (.int .i64 z)).frozen? ⟨w.heap.size, o, none⟩ = false := fun o => by
          rw [World.frozen?_of_block (a := ⟨w.heap.size, o, none⟩) (HPN.out.2.2.block w.heap.size (by omega) hzb)]
          exact HZ.out.2 o
        obtain ⟨⟨p0, p1, p2, p3, p4⟩, pf⟩ := HRes.out
        have p0 : (w9.setCell ⟨xb, 1, none⟩ (.int .i64 z)).cell? ⟨xb, 0, none⟩ = some (.int .i64 (f)) := p0
        have p1 : (w9.setCell ⟨xb, 1, none⟩ (.int .i64 z)).cell? ⟨xb, 1, none⟩ = some (.int .i64 (z)) := p1
        have p2 : (w9.setCell ⟨xb, 1, none⟩ (.int .i64 z)).cell? ⟨xb, 2, none⟩ = some (.int .i64 (wd)) := p2
        go_wp2_with fail
        refine bodyPost_ret (v := .agg #[.int .i64 (f), .int .i64 (z), .int .i64 (wd), .slice a1 na c1, .slice a2 nr c2]) ?_ ?_ ?_
        · simp only [results, Try.results62]; go_simp
        · rfl
        · refine ⟨⟨⟨f, z, wd, xa, xr⟩, .slice a1 na c1, .slice a2 nr c2, rfl, ?_, ?_⟩, ?_⟩
          · exact ⟨⟨hf.1, hf.2⟩, hz, ⟨by show -1 ≤ wd; omega, by show wd ≤ 128; omega⟩, by first | omega | (have := HN.out.1; have := HN.out.2.1; simp; omega), HN.out.2.2.1, HN.out.2.2.2⟩
          · rw [← HSz.out]; exact ((((HCO.out.set _ 0 (by omega) _).set _ 1 (by omega) _).set _ 2 (by omega) _).set _ 3 (by omega) _).set _ 4 (by omega) _
          · have h1 : CurPost w b (n + 200) v (w9.setCell ⟨xb, 1, none⟩ (.int .i64 z)) := curPost_mono (curPost_trans HP0.out HPN.out) (by omega)
            exact curPost_set HV0.out (curPost_set HV0.out (curPost_set HV0.out (curPost_set HV0.out (curPost_set HV0.out h1 (Nat.le_refl _) hzb2) (Nat.le_refl _) hzb2) (Nat.le_refl _) hzb2) (Nat.le_refl _) hzb2) (Nat.le_refl _) hzb2
      by_cases hq1 : r = 1
      · subst hq1
        obtain ⟨wl, hwwl⟩ : ∃ X : World, X = w8.alloc (.cells #[.int .i64 (-1), .int .i64 128] 3) := ⟨_, rfl⟩
        have hltw : b < w8.heap.size := curAt_lt HP.out.1
        have hlo : ListOff wl b (.slice (some ⟨w8.heap.size, 0, none⟩) 2 2) (amX.map (.int .i64)) := by rw [hwwl]; exact listOff_built w8 b (amX.map (.int .i64)) 3 hltw (by decide)
        have hp4 : CurPost wz b (n + 6 + 2 * k + 2) v wl := by rw [hwwl]; exact curPost_alloc HP.out _
        have HAm := Lib.hid (among_any b (n + 6 + 2 * k + 2) v (.slice (some ⟨w8.heap.size, 0, none⟩) 2 2) amX wl hp4.1 hp4.2.1 (by omega) hlo (by decide) (by decide) (by decide))
        have HP := Lib.hid hp4
        have HWl := Lib.hid hwwl
        clear hltw hlo hp4 hwwl
        go_wp2_with fail
        rw [← HWl.out]
        go_at_call 65
        refine HAm.out.mono ?_
        rintro e w9 ⟨⟨z, hz, rfl⟩, hp⟩
        have hz := amX_in z hz
        have HF := Lib.hid ((HF.out.keep (show Below w8.heap.size w8 wl by rw [HWl.out]; exact (Below.refl _ _).alloc (Nat.le_refl _) _)).cur hp hltz hxb2.symm)
        have HP := Lib.hid (curPost_trans HP.out hp)
        clear hp HAm HWl p0 p1 p2 p3 p4 pf
        obtain ⟨p0, p1, p2, p3, p4⟩ := HF.out.box
        have p0 : w9.cell? ⟨xb, 0, none⟩ = some (.int .i64 f) := p0
        have p1 : w9.cell? ⟨xb, 1, none⟩ = some (.int .i64 T) := p1
        have p2 : w9.cell? ⟨xb, 2, none⟩ = some (.int .i64 wd) := p2
        have pf := HF.out.free
        have HFN := Lib.hid (HF.out.setW z)
        have HPN := Lib.hid (curPost_set (o := 2) (u := .int .i64 z) HV.out HP.out hxb hxb2)
        have HRes := Lib.hid (And.intro HFN.out.box HFN.out.free)
        have hCO : CalO wz.heap.size (w9.setCell ⟨xb, 2, none⟩ (.int .i64 z)) ⟨f, T, z, xa, xr⟩ (.slice a1 na c1) (.slice a2 nr c2) := ⟨HFN.out.adds, HFN.out.rems⟩
        have HCO := Lib.hid hCO
        have z0 : (w9.setCell ⟨xb, 2, none⟩ (.int .i64 z)).cell? ⟨w.heap.size, 0, none⟩ = some (.int .i64 0) := HPN.out.2.2.cell HZ.out.1.1 hzb
        have z1 : (w9.setCell ⟨xb, 2, none⟩ (.int .i64 z)).cell? ⟨w.heap.size, 1, none⟩ = some (.int .i64 0) := HPN.out.2.2.cell HZ.out.1.2.1 hzb
        have z2 : (w9.setCell ⟨xb, 2, none⟩ (.int .i64 z)).cell? ⟨w.heap.size, 2, none⟩ = some (.int .i64 0) := HPN.out.2.2.cell HZ.out.1.2.2.1 hzb
        have z3 : (w9.setCell ⟨xb, 2, none⟩ (.int .i64 z)).cell? ⟨w.heap.size, 3, none⟩ = some (.slice none 0 0) := HPN.out.2.2.cell HZ.out.1.2.2.2.1 hzb
        have z4 : (w9.setCell ⟨xb, 2, none⟩ (.int .i64 z)).cell? ⟨w.heap.size, 4, none⟩ = some (.slice none 0 0) := HPN.out.2.2.cell HZ.out.1.2.2.2.2 hzb
        have zf : ∀ o, (w9.setCell ⟨xb, 2, none⟩ (.int .i64 z)).frozen? ⟨w.heap.size, o, none⟩ = false := fun o => by
          rw [World.frozen?_of_block (a := ⟨w.heap.size, o, none⟩) (HPN.out.2.2.block w.heap.size (by omega) hzb)]
          exact HZ.out.2 o
        obtain ⟨⟨p0, p1, p2, p3, p4⟩, pf⟩ := HRes.out
        have p0 : (w9.setCell ⟨xb, 2, none⟩ (.int .i64 z)).cell? ⟨xb, 0, none⟩ = some (.int .i64 (f)) := p0
        have p1 : (w9.setCell ⟨xb, 2, none⟩ (.int .i64 z)).cell? ⟨xb, 1, none⟩ = some (.int .i64 (T)) := p1
        have p2 : (w9.setCell ⟨xb, 2, none⟩ (.int .i64 z)).cell? ⟨xb, 2, none⟩ = some (.int .i64 (z)) := p2
        go_wp2_with fail
        refine bodyPost_ret (v := .agg #[.int .i64 (f), .int .i64 (T), .int .i64 (z), .slice a1 na c1, .slice a2 nr c2]) ?_ ?_ ?_
        · simp only [results, Try.results62]; go_simp
        · rfl
        · refine ⟨⟨⟨f, T, z, xa, xr⟩, .slice a1 na c1, .slice a2 nr c2, rfl, ?_, ?_⟩, ?_⟩
          · exact ⟨⟨hf.1, hf.2⟩, ⟨by show -1 ≤ T; omega, by show T ≤ 3651; omega⟩, hz, by first | omega | (have := HN.out.1; have := HN.out.2.1; simp; omega), HN.out.2.2.1, HN.out.2.2.2⟩
          · rw [← HSz.out]; exact ((((HCO.out.set _ 0 (by omega) _).set _ 1 (by omega) _).set _ 2 (by omega) _).set _ 3 (by omega) _).set _ 4 (by omega) _
          · have h1 : CurPost w b (n + 200) v (w9.setCell ⟨xb, 2, none⟩ (.int .i64 z)) := curPost_mono (curPost_trans HP0.out HPN.out) (by omega)
            exact curPost_set HV0.out (curPost_set HV0.out (curPost_set HV0.out (curPost_set HV0.out (curPost_set HV0.out h1 (Nat.le_refl _) hzb2) (Nat.le_refl _) hzb2) (Nat.le_refl _) hzb2) (Nat.le_refl _) hzb2) (Nat.le_refl _) hzb2
      by_cases hq2 : r = 2
      · subst hq2
        have HO : Hid (w8.ownsRow wz.heap.size 3 1 (.slice a1 na c1) na (ints xa)) := by show World.ownsRow _ _ _ _ _ _ _; have h := HF.out.adds; rw [show (xa : List Int).length = na from HN.out.1.symm] at h; exact h
        have hzW : wz.heap.size ≤ w8.heap.size := HP.out.2.2.size
        go_wp2_with (at_builtin; refine wpList_append_own_at _ rfl _ _ 34 rfl wz.heap.size 3 i0 (.int .i64 0) 1 8 Try.underlying34 hi' iz0 iz1 iz2 rfl (by decide) (.slice a1 na c1) na _ rfl (HO.out.alloc _) ⟨w8.heap.size, 0, none⟩ 1 1 [.int .i64 (f)] rfl rfl ?c1 ?c2 ?c3 ?c4 ?c5 ?_)
        case c1 => exact one_new _ _
        case c2 => exact fit_one w8 _ (t := 3)
        case c3 => unfold maxLen; omega
        case c4 => omega
        case c5 => simp; omega
        intro v' w9 hown' hgrow _ hloc
        obtain ⟨⟨q0, q1, q2, q3, q4⟩, hf4⟩ := HF.out.mid _ hgrow HF.out.offA
        have HFN := Lib.hid (HF.out.addA (x := f) hzW (by rw [show (xa : List Int).length = na from HN.out.1.symm]; exact hown') hgrow hloc)
        have HPN := Lib.hid (curPost_set (o := 3) (u := v') HV.out (cur_grown HV.out hltz (curPost_alloc HP.out _) hgrow (fun g hg => (HO.out.lt g hg).1)) hxb hxb2)
        obtain ⟨av', cv', rfl⟩ := own_shape hown'
        clear hown' hgrow hloc HO p0 p1 p2 p3 p4 pf
        have HRes := Lib.hid (And.intro HFN.out.box HFN.out.free)
        have hCO : CalO wz.heap.size (w9.setCell ⟨xb, 3, none⟩ (.slice av' (na + 1) cv')) ⟨f, T, wd, xa ++ [f], xr⟩ (.slice av' (na + 1) cv') (.slice a2 nr c2) := ⟨HFN.out.adds, HFN.out.rems⟩
        have HCO := Lib.hid hCO
        have z0 : (w9.setCell ⟨xb, 3, none⟩ (.slice av' (na + 1) cv')).cell? ⟨w.heap.size, 0, none⟩ = some (.int .i64 0) := HPN.out.2.2.cell HZ.out.1.1 hzb
        have z1 : (w9.setCell ⟨xb, 3, none⟩ (.slice av' (na + 1) cv')).cell? ⟨w.heap.size, 1, none⟩ = some (.int .i64 0) := HPN.out.2.2.cell HZ.out.1.2.1 hzb
        have z2 : (w9.setCell ⟨xb, 3, none⟩ (.slice av' (na + 1) cv')).cell? ⟨w.heap.size, 2, none⟩ = some (.int .i64 0) := HPN.out.2.2.cell HZ.out.1.2.2.1 hzb
        have z3 : (w9.setCell ⟨xb, 3, none⟩ (.slice av' (na + 1) cv')).cell? ⟨w.heap.size, 3, none⟩ = some (.slice none 0 0) := HPN.out.2.2.cell HZ.out.1.2.2.2.1 hzb
        have z4 : (w9.setCell ⟨xb, 3, none⟩ (.slice av' (na + 1) cv')).cell? ⟨w.heap.size, 4, none⟩ = some (.slice none 0 0) := HPN.out.2.2.cell HZ.out.1.2.2.2.2 hzb
        have zf : ∀ o, (w9.setCell ⟨xb, 3, none⟩ (.slice av' (na + 1) cv')).frozen? ⟨w.heap.size, o, none⟩ = false := fun o => by
          rw [World.frozen?_of_block (a := ⟨w.heap.size, o, none⟩) (HPN.out.2.2.block w.heap.size (by omega) hzb)]
          exact HZ.out.2 o
        obtain ⟨⟨p0, p1, p2, p3, p4⟩, pf⟩ := HRes.out
        have p0 : (w9.setCell ⟨xb, 3, none⟩ (.slice av' (na + 1) cv')).cell? ⟨xb, 0, none⟩ = some (.int .i64 (f)) := p0
        have p1 : (w9.setCell ⟨xb, 3, none⟩ (.slice av' (na + 1) cv')).cell? ⟨xb, 1, none⟩ = some (.int .i64 (T)) := p1
        have p2 : (w9.setCell ⟨xb, 3, none⟩ (.slice av' (na + 1) cv')).cell? ⟨xb, 2, none⟩ = some (.int .i64 (wd)) := p2
        go_wp2_with fail
        refine bodyPost_ret (v := .agg #[.int .i64 (f), .int .i64 (T), .int .i64 (wd), .slice av' (na + 1) cv', .slice a2 nr c2]) ?_ ?_ ?_
        · simp only [results, Try.results62]; go_simp
        · rfl
        · refine ⟨⟨⟨f, T, wd, xa ++ [f], xr⟩, .slice av' (na + 1) cv', .slice a2 nr c2, rfl, ?_, ?_⟩, ?_⟩
          · exact ⟨⟨hf.1, hf.2⟩, ⟨by show -1 ≤ T; omega, by show T ≤ 3651; omega⟩, ⟨by show -1 ≤ wd; omega, by show wd ≤ 128; omega⟩, by first | omega | (have := HN.out.1; have := HN.out.2.1; simp; omega), fun x hx => by rcases List.mem_append.1 hx with h | h; exact HN.out.2.2.1 x h; simp at h; omega, HN.out.2.2.2⟩
          · rw [← HSz.out]; exact ((((HCO.out.set _ 0 (by omega) _).set _ 1 (by omega) _).set _ 2 (by omega) _).set _ 3 (by omega) _).set _ 4 (by omega) _
          · have h1 : CurPost w b (n + 200) v (w9.setCell ⟨xb, 3, none⟩ (.slice av' (na + 1) cv')) := curPost_mono (curPost_trans HP0.out HPN.out) (by omega)
            exact curPost_set HV0.out (curPost_set HV0.out (curPost_set HV0.out (curPost_set HV0.out (curPost_set HV0.out h1 (Nat.le_refl _) hzb2) (Nat.le_refl _) hzb2) (Nat.le_refl _) hzb2) (Nat.le_refl _) hzb2) (Nat.le_refl _) hzb2
      by_cases hq3 : r = 3
      · subst hq3
        have hwT : IntKind.i64.wrap (T + 1) = T + 1 := IntWalk.i64_in _ (by omega)
        have HO : Hid (w8.ownsRow wz.heap.size 3 1 (.slice a2 nr c2) nr (ints xr)) := by show World.ownsRow _ _ _ _ _ _ _; have h := HF.out.rems; rw [show (xr : List Int).length = nr from HN.out.2.1.symm] at h; exact h
        have hzW : wz.heap.size ≤ w8.heap.size := HP.out.2.2.size
        go_wp2_with (at_builtin; refine wpList_append_own_at _ rfl _ _ 34 rfl wz.heap.size 3 i0 (.int .i64 0) 1 8 Try.underlying34 hi' iz0 iz1 iz2 rfl (by decide) (.slice a2 nr c2) nr _ rfl (HO.out.alloc _) ⟨w8.heap.size, 0, none⟩ 1 1 [.int .i64 (T + 1)] rfl rfl ?c1 ?c2 ?c3 ?c4 ?c5 ?_)
        case c1 => exact one_new _ _
        case c2 => exact fit_one w8 _ (t := 3)
        case c3 => unfold maxLen; omega
        case c4 => omega
        case c5 => simp; omega
        intro v' w9 hown' hgrow _ hloc
        obtain ⟨⟨q0, q1, q2, q3, q4⟩, hf4⟩ := HF.out.mid _ hgrow HF.out.offR
        have HFN := Lib.hid (HF.out.addR (x := T + 1) hzW (by rw [show (xr : List Int).length = nr from HN.out.2.1.symm]; exact hown') hgrow hloc)
        have HPN := Lib.hid (curPost_set (o := 4) (u := v') HV.out (cur_grown HV.out hltz (curPost_alloc HP.out _) hgrow (fun g hg => (HO.out.lt g hg).1)) hxb hxb2)
        obtain ⟨av', cv', rfl⟩ := own_shape hown'
        clear hown' hgrow hloc HO p0 p1 p2 p3 p4 pf
        have HRes := Lib.hid (And.intro HFN.out.box HFN.out.free)
        have hCO : CalO wz.heap.size (w9.setCell ⟨xb, 4, none⟩ (.slice av' (nr + 1) cv')) ⟨f, T, wd, xa, xr ++ [T + 1]⟩ (.slice a1 na c1) (.slice av' (nr + 1) cv') := ⟨HFN.out.adds, HFN.out.rems⟩
        have HCO := Lib.hid hCO
        have z0 : (w9.setCell ⟨xb, 4, none⟩ (.slice av' (nr + 1) cv')).cell? ⟨w.heap.size, 0, none⟩ = some (.int .i64 0) := HPN.out.2.2.cell HZ.out.1.1 hzb
        have z1 : (w9.setCell ⟨xb, 4, none⟩ (.slice av' (nr + 1) cv')).cell? ⟨w.heap.size, 1, none⟩ = some (.int .i64 0) := HPN.out.2.2.cell HZ.out.1.2.1 hzb
        have z2 : (w9.setCell ⟨xb, 4, none⟩ (.slice av' (nr + 1) cv')).cell? ⟨w.heap.size, 2, none⟩ = some (.int .i64 0) := HPN.out.2.2.cell HZ.out.1.2.2.1 hzb
        have z3 : (w9.setCell ⟨xb, 4, none⟩ (.slice av' (nr + 1) cv')).cell? ⟨w.heap.size, 3, none⟩ = some (.slice none 0 0) := HPN.out.2.2.cell HZ.out.1.2.2.2.1 hzb
        have z4 : (w9.setCell ⟨xb, 4, none⟩ (.slice av' (nr + 1) cv')).cell? ⟨w.heap.size, 4, none⟩ = some (.slice none 0 0) := HPN.out.2.2.cell HZ.out.1.2.2.2.2 hzb
        have zf : ∀ o, (w9.setCell ⟨xb, 4, none⟩ (.slice av' (nr + 1) cv')).frozen? ⟨w.heap.size, o, none⟩ = false := fun o => by
          rw [World.frozen?_of_block (a := ⟨w.heap.size, o, none⟩) (HPN.out.2.2.block w.heap.size (by omega) hzb)]
          exact HZ.out.2 o
        obtain ⟨⟨p0, p1, p2, p3, p4⟩, pf⟩ := HRes.out
        have p0 : (w9.setCell ⟨xb, 4, none⟩ (.slice av' (nr + 1) cv')).cell? ⟨xb, 0, none⟩ = some (.int .i64 (f)) := p0
        have p1 : (w9.setCell ⟨xb, 4, none⟩ (.slice av' (nr + 1) cv')).cell? ⟨xb, 1, none⟩ = some (.int .i64 (T)) := p1
        have p2 : (w9.setCell ⟨xb, 4, none⟩ (.slice av' (nr + 1) cv')).cell? ⟨xb, 2, none⟩ = some (.int .i64 (wd)) := p2
        go_wp2_with fail
        refine bodyPost_ret (v := .agg #[.int .i64 (f), .int .i64 (T), .int .i64 (wd), .slice a1 na c1, .slice av' (nr + 1) cv']) ?_ ?_ ?_
        · simp only [results, Try.results62]; go_simp
        · rfl
        · refine ⟨⟨⟨f, T, wd, xa, xr ++ [T + 1]⟩, .slice a1 na c1, .slice av' (nr + 1) cv', rfl, ?_, ?_⟩, ?_⟩
          · exact ⟨⟨hf.1, hf.2⟩, ⟨by show -1 ≤ T; omega, by show T ≤ 3651; omega⟩, ⟨by show -1 ≤ wd; omega, by show wd ≤ 128; omega⟩, by first | omega | (have := HN.out.1; have := HN.out.2.1; simp; omega), HN.out.2.2.1, fun x hx => by rcases List.mem_append.1 hx with h | h; exact HN.out.2.2.2 x h; simp at h; omega⟩
          · rw [← HSz.out]; exact ((((HCO.out.set _ 0 (by omega) _).set _ 1 (by omega) _).set _ 2 (by omega) _).set _ 3 (by omega) _).set _ 4 (by omega) _
          · have h1 : CurPost w b (n + 200) v (w9.setCell ⟨xb, 4, none⟩ (.slice av' (nr + 1) cv')) := curPost_mono (curPost_trans HP0.out HPN.out) (by omega)
            exact curPost_set HV0.out (curPost_set HV0.out (curPost_set HV0.out (curPost_set HV0.out (curPost_set HV0.out h1 (Nat.le_refl _) hzb2) (Nat.le_refl _) hzb2) (Nat.le_refl _) hzb2) (Nat.le_refl _) hzb2) (Nat.le_refl _) hzb2
      have hb0 : (r == 0) = false := by simpa using hq0
      have hb1 : (r == 1) = false := by simpa using hq1
      have hb2 : (r == 2) = false := by simpa using hq2
      have hb3 : (r == 3) = false := by simpa using hq3
      clear p0 p1 p2 p3 p4 pf
      have HRes := Lib.hid (And.intro HF.out.box HF.out.free)
      have hCO : CalO wz.heap.size (w8) ⟨f, T, wd, xa, xr⟩ (.slice a1 na c1) (.slice a2 nr c2) := ⟨HF.out.adds, HF.out.rems⟩
      have HCO := Lib.hid hCO
      have z0 : (w8).cell? ⟨w.heap.size, 0, none⟩ = some (.int .i64 0) := HP.out.2.2.cell HZ.out.1.1 hzb
      have z1 : (w8).cell? ⟨w.heap.size, 1, none⟩ = some (.int .i64 0) := HP.out.2.2.cell HZ.out.1.2.1 hzb
      have z2 : (w8).cell? ⟨w.heap.size, 2, none⟩ = some (.int .i64 0) := HP.out.2.2.cell HZ.out.1.2.2.1 hzb
      have z3 : (w8).cell? ⟨w.heap.size, 3, none⟩ = some (.slice none 0 0) := HP.out.2.2.cell HZ.out.1.2.2.2.1 hzb
      have z4 : (w8).cell? ⟨w.heap.size, 4, none⟩ = some (.slice none 0 0) := HP.out.2.2.cell HZ.out.1.2.2.2.2 hzb
      have zf : ∀ o, (w8).frozen? ⟨w.heap.size, o, none⟩ = false := fun o => by
        rw [World.frozen?_of_block (a := ⟨w.heap.size, o, none⟩) (HP.out.2.2.block w.heap.size (by omega) hzb)]
        exact HZ.out.2 o
      obtain ⟨⟨p0, p1, p2, p3, p4⟩, pf⟩ := HRes.out
      have p0 : (w8).cell? ⟨xb, 0, none⟩ = some (.int .i64 (f)) := p0
      have p1 : (w8).cell? ⟨xb, 1, none⟩ = some (.int .i64 (T)) := p1
      have p2 : (w8).cell? ⟨xb, 2, none⟩ = some (.int .i64 (wd)) := p2
      go_wp2_with fail
      refine bodyPost_ret (v := .agg #[.int .i64 (f), .int .i64 (T), .int .i64 (wd), .slice a1 na c1, .slice a2 nr c2]) ?_ ?_ ?_
      · simp only [results, Try.results62]; go_simp
      · rfl
      · refine ⟨⟨⟨f, T, wd, xa, xr⟩, .slice a1 na c1, .slice a2 nr c2, rfl, ?_, ?_⟩, ?_⟩
        · exact ⟨⟨hf.1, hf.2⟩, ⟨by show -1 ≤ T; omega, by show T ≤ 3651; omega⟩, ⟨by show -1 ≤ wd; omega, by show wd ≤ 128; omega⟩, by first | omega | (have := HN.out.1; have := HN.out.2.1; simp; omega), HN.out.2.2.1, HN.out.2.2.2⟩
        · rw [← HSz.out]; exact ((((HCO.out.set _ 0 (by omega) _).set _ 1 (by omega) _).set _ 2 (by omega) _).set _ 3 (by omega) _).set _ 4 (by omega) _
        · have h1 : CurPost w b (n + 200) v (w8) := curPost_mono (curPost_trans HP0.out HP.out) (by omega)
          exact curPost_set HV0.out (curPost_set HV0.out (curPost_set HV0.out (curPost_set HV0.out (curPost_set HV0.out h1 (Nat.le_refl _) hzb2) (Nat.le_refl _) hzb2) (Nat.le_refl _) hzb2) (Nat.le_refl _) hzb2) (Nat.le_refl _) hzb2
    by_cases hc2 : (na : Int) + (nr : Int) < 5
    rotate_left
    · have HPk := Lib.hid (pick_any b (n + 6 + 2 * k) v 40 wr HP.out.1 HP.out.2.1 (by omega) (by omega))
      go_wp2_with fail
      go_at_call 42
      refine HPk.out.mono ?_
      rintro e w8 ⟨⟨r, rfl, hr0, hr1⟩, hp⟩
      have hr2 := hr1 (by omega)
      have HF := Lib.hid (HF.out.cur hp hltz hxb2.symm)
      have HP := Lib.hid (curPost_trans HP.out hp)
      clear hp HPk p0 p1 p2 p3 p4 pf hr1
      obtain ⟨p0, p1, p2, p3, p4⟩ := HF.out.box
      have p0 : w8.cell? ⟨xb, 0, none⟩ = some (.int .i64 f) := p0
      have p1 : w8.cell? ⟨xb, 1, none⟩ = some (.int .i64 T) := p1
      have p2 : w8.cell? ⟨xb, 2, none⟩ = some (.int .i64 wd) := p2
      have pf := HF.out.free
      by_cases hq0 : r = 0
      · subst hq0
        obtain ⟨wl, hwwl⟩ : ∃ X : World, X = w8.alloc (.cells #[.int .i64 (-1), .int .i64 3650, .int .i64 3651] 3) := ⟨_, rfl⟩
        have hltw : b < w8.heap.size := curAt_lt HP.out.1
        have hlo : ListOff wl b (.slice (some ⟨w8.heap.size, 0, none⟩) 3 3) (amU.map (.int .i64)) := by rw [hwwl]; exact listOff_built w8 b (amU.map (.int .i64)) 3 hltw (by decide)
        have hp4 : CurPost wz b (n + 6 + 2 * k + 2) v wl := by rw [hwwl]; exact curPost_alloc HP.out _
        have HAm := Lib.hid (among_any b (n + 6 + 2 * k + 2) v (.slice (some ⟨w8.heap.size, 0, none⟩) 3 3) amU wl hp4.1 hp4.2.1 (by omega) hlo (by decide) (by decide) (by decide))
        have HP := Lib.hid hp4
        have HWl := Lib.hid hwwl
        clear hltw hlo hp4 hwwl
        go_wp2_with fail
        rw [← HWl.out]
        go_at_call 65
        refine HAm.out.mono ?_
        rintro e w9 ⟨⟨z, hz, rfl⟩, hp⟩
        have hz := amU_in z hz
        have HF := Lib.hid ((HF.out.keep (show Below w8.heap.size w8 wl by rw [HWl.out]; exact (Below.refl _ _).alloc (Nat.le_refl _) _)).cur hp hltz hxb2.symm)
        have HP := Lib.hid (curPost_trans HP.out hp)
        clear hp HAm HWl p0 p1 p2 p3 p4 pf
        obtain ⟨p0, p1, p2, p3, p4⟩ := HF.out.box
        have p0 : w9.cell? ⟨xb, 0, none⟩ = some (.int .i64 f) := p0
        have p1 : w9.cell? ⟨xb, 1, none⟩ = some (.int .i64 T) := p1
        have p2 : w9.cell? ⟨xb, 2, none⟩ = some (.int .i64 wd) := p2
        have pf := HF.out.free
        have HFN := Lib.hid (HF.out.setT z)
        have HPN := Lib.hid (curPost_set (o := 1) (u := .int .i64 z) HV.out HP.out hxb hxb2)
        have HRes := Lib.hid (And.intro HFN.out.box HFN.out.free)
        have hCO : CalO wz.heap.size (w9.setCell ⟨xb, 1, none⟩ (.int .i64 z)) ⟨f, z, wd, xa, xr⟩ (.slice a1 na c1) (.slice a2 nr c2) := ⟨HFN.out.adds, HFN.out.rems⟩
        have HCO := Lib.hid hCO
        have z0 : (w9.setCell ⟨xb, 1, none⟩ (.int .i64 z)).cell? ⟨w.heap.size, 0, none⟩ = some (.int .i64 0) := HPN.out.2.2.cell HZ.out.1.1 hzb
        have z1 : (w9.setCell ⟨xb, 1, none⟩ (.int .i64 z)).cell? ⟨w.heap.size, 1, none⟩ = some (.int .i64 0) := HPN.out.2.2.cell HZ.out.1.2.1 hzb
        have z2 : (w9.setCell ⟨xb, 1, none⟩ (.int .i64 z)).cell? ⟨w.heap.size, 2, none⟩ = some (.int .i64 0) := HPN.out.2.2.cell HZ.out.1.2.2.1 hzb
        have z3 : (w9.setCell ⟨xb, 1, none⟩ (.int .i64 z)).cell? ⟨w.heap.size, 3, none⟩ = some (.slice none 0 0) := HPN.out.2.2.cell HZ.out.1.2.2.2.1 hzb
        have z4 : (w9.setCell ⟨xb, 1, none⟩ (.int .i64 z)).cell? ⟨w.heap.size, 4, none⟩ = some (.slice none 0 0) := HPN.out.2.2.cell HZ.out.1.2.2.2.2 hzb
        have zf : ∀ o, (w9.setCell ⟨xb, 1, none⟩ (.int .i64 z)).frozen? ⟨w.heap.size, o, none⟩ = false := fun o => by
          rw [World.frozen?_of_block (a := ⟨w.heap.size, o, none⟩) (HPN.out.2.2.block w.heap.size (by omega) hzb)]
          exact HZ.out.2 o
        obtain ⟨⟨p0, p1, p2, p3, p4⟩, pf⟩ := HRes.out
        have p0 : (w9.setCell ⟨xb, 1, none⟩ (.int .i64 z)).cell? ⟨xb, 0, none⟩ = some (.int .i64 (f)) := p0
        have p1 : (w9.setCell ⟨xb, 1, none⟩ (.int .i64 z)).cell? ⟨xb, 1, none⟩ = some (.int .i64 (z)) := p1
        have p2 : (w9.setCell ⟨xb, 1, none⟩ (.int .i64 z)).cell? ⟨xb, 2, none⟩ = some (.int .i64 (wd)) := p2
        go_wp2_with fail
        refine bodyPost_ret (v := .agg #[.int .i64 (f), .int .i64 (z), .int .i64 (wd), .slice a1 na c1, .slice a2 nr c2]) ?_ ?_ ?_
        · simp only [results, Try.results62]; go_simp
        · rfl
        · refine ⟨⟨⟨f, z, wd, xa, xr⟩, .slice a1 na c1, .slice a2 nr c2, rfl, ?_, ?_⟩, ?_⟩
          · exact ⟨⟨hf.1, hf.2⟩, hz, ⟨by show -1 ≤ wd; omega, by show wd ≤ 128; omega⟩, by first | omega | (have := HN.out.1; have := HN.out.2.1; simp; omega), HN.out.2.2.1, HN.out.2.2.2⟩
          · rw [← HSz.out]; exact ((((HCO.out.set _ 0 (by omega) _).set _ 1 (by omega) _).set _ 2 (by omega) _).set _ 3 (by omega) _).set _ 4 (by omega) _
          · have h1 : CurPost w b (n + 200) v (w9.setCell ⟨xb, 1, none⟩ (.int .i64 z)) := curPost_mono (curPost_trans HP0.out HPN.out) (by omega)
            exact curPost_set HV0.out (curPost_set HV0.out (curPost_set HV0.out (curPost_set HV0.out (curPost_set HV0.out h1 (Nat.le_refl _) hzb2) (Nat.le_refl _) hzb2) (Nat.le_refl _) hzb2) (Nat.le_refl _) hzb2) (Nat.le_refl _) hzb2
      by_cases hq1 : r = 1
      · subst hq1
        obtain ⟨wl, hwwl⟩ : ∃ X : World, X = w8.alloc (.cells #[.int .i64 (-1), .int .i64 128] 3) := ⟨_, rfl⟩
        have hltw : b < w8.heap.size := curAt_lt HP.out.1
        have hlo : ListOff wl b (.slice (some ⟨w8.heap.size, 0, none⟩) 2 2) (amX.map (.int .i64)) := by rw [hwwl]; exact listOff_built w8 b (amX.map (.int .i64)) 3 hltw (by decide)
        have hp4 : CurPost wz b (n + 6 + 2 * k + 2) v wl := by rw [hwwl]; exact curPost_alloc HP.out _
        have HAm := Lib.hid (among_any b (n + 6 + 2 * k + 2) v (.slice (some ⟨w8.heap.size, 0, none⟩) 2 2) amX wl hp4.1 hp4.2.1 (by omega) hlo (by decide) (by decide) (by decide))
        have HP := Lib.hid hp4
        have HWl := Lib.hid hwwl
        clear hltw hlo hp4 hwwl
        go_wp2_with fail
        rw [← HWl.out]
        go_at_call 65
        refine HAm.out.mono ?_
        rintro e w9 ⟨⟨z, hz, rfl⟩, hp⟩
        have hz := amX_in z hz
        have HF := Lib.hid ((HF.out.keep (show Below w8.heap.size w8 wl by rw [HWl.out]; exact (Below.refl _ _).alloc (Nat.le_refl _) _)).cur hp hltz hxb2.symm)
        have HP := Lib.hid (curPost_trans HP.out hp)
        clear hp HAm HWl p0 p1 p2 p3 p4 pf
        obtain ⟨p0, p1, p2, p3, p4⟩ := HF.out.box
        have p0 : w9.cell? ⟨xb, 0, none⟩ = some (.int .i64 f) := p0
        have p1 : w9.cell? ⟨xb, 1, none⟩ = some (.int .i64 T) := p1
        have p2 : w9.cell? ⟨xb, 2, none⟩ = some (.int .i64 wd) := p2
        have pf := HF.out.free
        have HFN := Lib.hid (HF.out.setW z)
        have HPN := Lib.hid (curPost_set (o := 2) (u := .int .i64 z) HV.out HP.out hxb hxb2)
        have HRes := Lib.hid (And.intro HFN.out.box HFN.out.free)
        have hCO : CalO wz.heap.size (w9.setCell ⟨xb, 2, none⟩ (.int .i64 z)) ⟨f, T, z, xa, xr⟩ (.slice a1 na c1) (.slice a2 nr c2) := ⟨HFN.out.adds, HFN.out.rems⟩
        have HCO := Lib.hid hCO
        have z0 : (w9.setCell ⟨xb, 2, none⟩ (.int .i64 z)).cell? ⟨w.heap.size, 0, none⟩ = some (.int .i64 0) := HPN.out.2.2.cell HZ.out.1.1 hzb
        have z1 : (w9.setCell ⟨xb, 2, none⟩ (.int .i64 z)).cell? ⟨w.heap.size, 1, none⟩ = some (.int .i64 0) := HPN.out.2.2.cell HZ.out.1.2.1 hzb
        have z2 : (w9.setCell ⟨xb, 2, none⟩ (.int .i64 z)).cell? ⟨w.heap.size, 2, none⟩ = some (.int .i64 0) := HPN.out.2.2.cell HZ.out.1.2.2.1 hzb
        have z3 : (w9.setCell ⟨xb, 2, none⟩ (.int .i64 z)).cell? ⟨w.heap.size, 3, none⟩ = some (.slice none 0 0) := HPN.out.2.2.cell HZ.out.1.2.2.2.1 hzb
        have z4 : (w9.setCell ⟨xb, 2, none⟩ (.int .i64 z)).cell? ⟨w.heap.size, 4, none⟩ = some (.slice none 0 0) := HPN.out.2.2.cell HZ.out.1.2.2.2.2 hzb
        have zf : ∀ o, (w9.setCell ⟨xb, 2, none⟩ (.int .i64 z)).frozen? ⟨w.heap.size, o, none⟩ = false := fun o => by
          rw [World.frozen?_of_block (a := ⟨w.heap.size, o, none⟩) (HPN.out.2.2.block w.heap.size (by omega) hzb)]
          exact HZ.out.2 o
        obtain ⟨⟨p0, p1, p2, p3, p4⟩, pf⟩ := HRes.out
        have p0 : (w9.setCell ⟨xb, 2, none⟩ (.int .i64 z)).cell? ⟨xb, 0, none⟩ = some (.int .i64 (f)) := p0
        have p1 : (w9.setCell ⟨xb, 2, none⟩ (.int .i64 z)).cell? ⟨xb, 1, none⟩ = some (.int .i64 (T)) := p1
        have p2 : (w9.setCell ⟨xb, 2, none⟩ (.int .i64 z)).cell? ⟨xb, 2, none⟩ = some (.int .i64 (z)) := p2
        go_wp2_with fail
        refine bodyPost_ret (v := .agg #[.int .i64 (f), .int .i64 (T), .int .i64 (z), .slice a1 na c1, .slice a2 nr c2]) ?_ ?_ ?_
        · simp only [results, Try.results62]; go_simp
        · rfl
        · refine ⟨⟨⟨f, T, z, xa, xr⟩, .slice a1 na c1, .slice a2 nr c2, rfl, ?_, ?_⟩, ?_⟩
          · exact ⟨⟨hf.1, hf.2⟩, ⟨by show -1 ≤ T; omega, by show T ≤ 3651; omega⟩, hz, by first | omega | (have := HN.out.1; have := HN.out.2.1; simp; omega), HN.out.2.2.1, HN.out.2.2.2⟩
          · rw [← HSz.out]; exact ((((HCO.out.set _ 0 (by omega) _).set _ 1 (by omega) _).set _ 2 (by omega) _).set _ 3 (by omega) _).set _ 4 (by omega) _
          · have h1 : CurPost w b (n + 200) v (w9.setCell ⟨xb, 2, none⟩ (.int .i64 z)) := curPost_mono (curPost_trans HP0.out HPN.out) (by omega)
            exact curPost_set HV0.out (curPost_set HV0.out (curPost_set HV0.out (curPost_set HV0.out (curPost_set HV0.out h1 (Nat.le_refl _) hzb2) (Nat.le_refl _) hzb2) (Nat.le_refl _) hzb2) (Nat.le_refl _) hzb2) (Nat.le_refl _) hzb2
      by_cases hq2 : r = 2
      · subst hq2
        have HO : Hid (w8.ownsRow wz.heap.size 3 1 (.slice a1 na c1) na (ints xa)) := by show World.ownsRow _ _ _ _ _ _ _; have h := HF.out.adds; rw [show (xa : List Int).length = na from HN.out.1.symm] at h; exact h
        have hzW : wz.heap.size ≤ w8.heap.size := HP.out.2.2.size
        go_wp2_with (at_builtin; refine wpList_append_own_at _ rfl _ _ 34 rfl wz.heap.size 3 i0 (.int .i64 0) 1 8 Try.underlying34 hi' iz0 iz1 iz2 rfl (by decide) (.slice a1 na c1) na _ rfl (HO.out.alloc _) ⟨w8.heap.size, 0, none⟩ 1 1 [.int .i64 (f)] rfl rfl ?c1 ?c2 ?c3 ?c4 ?c5 ?_)
        case c1 => exact one_new _ _
        case c2 => exact fit_one w8 _ (t := 3)
        case c3 => unfold maxLen; omega
        case c4 => omega
        case c5 => simp; omega
        intro v' w9 hown' hgrow _ hloc
        obtain ⟨⟨q0, q1, q2, q3, q4⟩, hf4⟩ := HF.out.mid _ hgrow HF.out.offA
        have HFN := Lib.hid (HF.out.addA (x := f) hzW (by rw [show (xa : List Int).length = na from HN.out.1.symm]; exact hown') hgrow hloc)
        have HPN := Lib.hid (curPost_set (o := 3) (u := v') HV.out (cur_grown HV.out hltz (curPost_alloc HP.out _) hgrow (fun g hg => (HO.out.lt g hg).1)) hxb hxb2)
        obtain ⟨av', cv', rfl⟩ := own_shape hown'
        clear hown' hgrow hloc HO p0 p1 p2 p3 p4 pf
        have HRes := Lib.hid (And.intro HFN.out.box HFN.out.free)
        have hCO : CalO wz.heap.size (w9.setCell ⟨xb, 3, none⟩ (.slice av' (na + 1) cv')) ⟨f, T, wd, xa ++ [f], xr⟩ (.slice av' (na + 1) cv') (.slice a2 nr c2) := ⟨HFN.out.adds, HFN.out.rems⟩
        have HCO := Lib.hid hCO
        have z0 : (w9.setCell ⟨xb, 3, none⟩ (.slice av' (na + 1) cv')).cell? ⟨w.heap.size, 0, none⟩ = some (.int .i64 0) := HPN.out.2.2.cell HZ.out.1.1 hzb
        have z1 : (w9.setCell ⟨xb, 3, none⟩ (.slice av' (na + 1) cv')).cell? ⟨w.heap.size, 1, none⟩ = some (.int .i64 0) := HPN.out.2.2.cell HZ.out.1.2.1 hzb
        have z2 : (w9.setCell ⟨xb, 3, none⟩ (.slice av' (na + 1) cv')).cell? ⟨w.heap.size, 2, none⟩ = some (.int .i64 0) := HPN.out.2.2.cell HZ.out.1.2.2.1 hzb
        have z3 : (w9.setCell ⟨xb, 3, none⟩ (.slice av' (na + 1) cv')).cell? ⟨w.heap.size, 3, none⟩ = some (.slice none 0 0) := HPN.out.2.2.cell HZ.out.1.2.2.2.1 hzb
        have z4 : (w9.setCell ⟨xb, 3, none⟩ (.slice av' (na + 1) cv')).cell? ⟨w.heap.size, 4, none⟩ = some (.slice none 0 0) := HPN.out.2.2.cell HZ.out.1.2.2.2.2 hzb
        have zf : ∀ o, (w9.setCell ⟨xb, 3, none⟩ (.slice av' (na + 1) cv')).frozen? ⟨w.heap.size, o, none⟩ = false := fun o => by
          rw [World.frozen?_of_block (a := ⟨w.heap.size, o, none⟩) (HPN.out.2.2.block w.heap.size (by omega) hzb)]
          exact HZ.out.2 o
        obtain ⟨⟨p0, p1, p2, p3, p4⟩, pf⟩ := HRes.out
        have p0 : (w9.setCell ⟨xb, 3, none⟩ (.slice av' (na + 1) cv')).cell? ⟨xb, 0, none⟩ = some (.int .i64 (f)) := p0
        have p1 : (w9.setCell ⟨xb, 3, none⟩ (.slice av' (na + 1) cv')).cell? ⟨xb, 1, none⟩ = some (.int .i64 (T)) := p1
        have p2 : (w9.setCell ⟨xb, 3, none⟩ (.slice av' (na + 1) cv')).cell? ⟨xb, 2, none⟩ = some (.int .i64 (wd)) := p2
        go_wp2_with fail
        refine bodyPost_ret (v := .agg #[.int .i64 (f), .int .i64 (T), .int .i64 (wd), .slice av' (na + 1) cv', .slice a2 nr c2]) ?_ ?_ ?_
        · simp only [results, Try.results62]; go_simp
        · rfl
        · refine ⟨⟨⟨f, T, wd, xa ++ [f], xr⟩, .slice av' (na + 1) cv', .slice a2 nr c2, rfl, ?_, ?_⟩, ?_⟩
          · exact ⟨⟨hf.1, hf.2⟩, ⟨by show -1 ≤ T; omega, by show T ≤ 3651; omega⟩, ⟨by show -1 ≤ wd; omega, by show wd ≤ 128; omega⟩, by first | omega | (have := HN.out.1; have := HN.out.2.1; simp; omega), fun x hx => by rcases List.mem_append.1 hx with h | h; exact HN.out.2.2.1 x h; simp at h; omega, HN.out.2.2.2⟩
          · rw [← HSz.out]; exact ((((HCO.out.set _ 0 (by omega) _).set _ 1 (by omega) _).set _ 2 (by omega) _).set _ 3 (by omega) _).set _ 4 (by omega) _
          · have h1 : CurPost w b (n + 200) v (w9.setCell ⟨xb, 3, none⟩ (.slice av' (na + 1) cv')) := curPost_mono (curPost_trans HP0.out HPN.out) (by omega)
            exact curPost_set HV0.out (curPost_set HV0.out (curPost_set HV0.out (curPost_set HV0.out (curPost_set HV0.out h1 (Nat.le_refl _) hzb2) (Nat.le_refl _) hzb2) (Nat.le_refl _) hzb2) (Nat.le_refl _) hzb2) (Nat.le_refl _) hzb2
      by_cases hq3 : r = 3
      · subst hq3
        have hwT : IntKind.i64.wrap (T + 1) = T + 1 := IntWalk.i64_in _ (by omega)
        have HO : Hid (w8.ownsRow wz.heap.size 3 1 (.slice a2 nr c2) nr (ints xr)) := by show World.ownsRow _ _ _ _ _ _ _; have h := HF.out.rems; rw [show (xr : List Int).length = nr from HN.out.2.1.symm] at h; exact h
        have hzW : wz.heap.size ≤ w8.heap.size := HP.out.2.2.size
        go_wp2_with (at_builtin; refine wpList_append_own_at _ rfl _ _ 34 rfl wz.heap.size 3 i0 (.int .i64 0) 1 8 Try.underlying34 hi' iz0 iz1 iz2 rfl (by decide) (.slice a2 nr c2) nr _ rfl (HO.out.alloc _) ⟨w8.heap.size, 0, none⟩ 1 1 [.int .i64 (T + 1)] rfl rfl ?c1 ?c2 ?c3 ?c4 ?c5 ?_)
        case c1 => exact one_new _ _
        case c2 => exact fit_one w8 _ (t := 3)
        case c3 => unfold maxLen; omega
        case c4 => omega
        case c5 => simp; omega
        intro v' w9 hown' hgrow _ hloc
        obtain ⟨⟨q0, q1, q2, q3, q4⟩, hf4⟩ := HF.out.mid _ hgrow HF.out.offR
        have HFN := Lib.hid (HF.out.addR (x := T + 1) hzW (by rw [show (xr : List Int).length = nr from HN.out.2.1.symm]; exact hown') hgrow hloc)
        have HPN := Lib.hid (curPost_set (o := 4) (u := v') HV.out (cur_grown HV.out hltz (curPost_alloc HP.out _) hgrow (fun g hg => (HO.out.lt g hg).1)) hxb hxb2)
        obtain ⟨av', cv', rfl⟩ := own_shape hown'
        clear hown' hgrow hloc HO p0 p1 p2 p3 p4 pf
        have HRes := Lib.hid (And.intro HFN.out.box HFN.out.free)
        have hCO : CalO wz.heap.size (w9.setCell ⟨xb, 4, none⟩ (.slice av' (nr + 1) cv')) ⟨f, T, wd, xa, xr ++ [T + 1]⟩ (.slice a1 na c1) (.slice av' (nr + 1) cv') := ⟨HFN.out.adds, HFN.out.rems⟩
        have HCO := Lib.hid hCO
        have z0 : (w9.setCell ⟨xb, 4, none⟩ (.slice av' (nr + 1) cv')).cell? ⟨w.heap.size, 0, none⟩ = some (.int .i64 0) := HPN.out.2.2.cell HZ.out.1.1 hzb
        have z1 : (w9.setCell ⟨xb, 4, none⟩ (.slice av' (nr + 1) cv')).cell? ⟨w.heap.size, 1, none⟩ = some (.int .i64 0) := HPN.out.2.2.cell HZ.out.1.2.1 hzb
        have z2 : (w9.setCell ⟨xb, 4, none⟩ (.slice av' (nr + 1) cv')).cell? ⟨w.heap.size, 2, none⟩ = some (.int .i64 0) := HPN.out.2.2.cell HZ.out.1.2.2.1 hzb
        have z3 : (w9.setCell ⟨xb, 4, none⟩ (.slice av' (nr + 1) cv')).cell? ⟨w.heap.size, 3, none⟩ = some (.slice none 0 0) := HPN.out.2.2.cell HZ.out.1.2.2.2.1 hzb
        have z4 : (w9.setCell ⟨xb, 4, none⟩ (.slice av' (nr + 1) cv')).cell? ⟨w.heap.size, 4, none⟩ = some (.slice none 0 0) := HPN.out.2.2.cell HZ.out.1.2.2.2.2 hzb
        have zf : ∀ o, (w9.setCell ⟨xb, 4, none⟩ (.slice av' (nr + 1) cv')).frozen? ⟨w.heap.size, o, none⟩ = false := fun o => by
          rw [World.frozen?_of_block (a := ⟨w.heap.size, o, none⟩) (HPN.out.2.2.block w.heap.size (by omega) hzb)]
          exact HZ.out.2 o
        obtain ⟨⟨p0, p1, p2, p3, p4⟩, pf⟩ := HRes.out
        have p0 : (w9.setCell ⟨xb, 4, none⟩ (.slice av' (nr + 1) cv')).cell? ⟨xb, 0, none⟩ = some (.int .i64 (f)) := p0
        have p1 : (w9.setCell ⟨xb, 4, none⟩ (.slice av' (nr + 1) cv')).cell? ⟨xb, 1, none⟩ = some (.int .i64 (T)) := p1
        have p2 : (w9.setCell ⟨xb, 4, none⟩ (.slice av' (nr + 1) cv')).cell? ⟨xb, 2, none⟩ = some (.int .i64 (wd)) := p2
        go_wp2_with fail
        refine bodyPost_ret (v := .agg #[.int .i64 (f), .int .i64 (T), .int .i64 (wd), .slice a1 na c1, .slice av' (nr + 1) cv']) ?_ ?_ ?_
        · simp only [results, Try.results62]; go_simp
        · rfl
        · refine ⟨⟨⟨f, T, wd, xa, xr ++ [T + 1]⟩, .slice a1 na c1, .slice av' (nr + 1) cv', rfl, ?_, ?_⟩, ?_⟩
          · exact ⟨⟨hf.1, hf.2⟩, ⟨by show -1 ≤ T; omega, by show T ≤ 3651; omega⟩, ⟨by show -1 ≤ wd; omega, by show wd ≤ 128; omega⟩, by first | omega | (have := HN.out.1; have := HN.out.2.1; simp; omega), HN.out.2.2.1, fun x hx => by rcases List.mem_append.1 hx with h | h; exact HN.out.2.2.2 x h; simp at h; omega⟩
          · rw [← HSz.out]; exact ((((HCO.out.set _ 0 (by omega) _).set _ 1 (by omega) _).set _ 2 (by omega) _).set _ 3 (by omega) _).set _ 4 (by omega) _
          · have h1 : CurPost w b (n + 200) v (w9.setCell ⟨xb, 4, none⟩ (.slice av' (nr + 1) cv')) := curPost_mono (curPost_trans HP0.out HPN.out) (by omega)
            exact curPost_set HV0.out (curPost_set HV0.out (curPost_set HV0.out (curPost_set HV0.out (curPost_set HV0.out h1 (Nat.le_refl _) hzb2) (Nat.le_refl _) hzb2) (Nat.le_refl _) hzb2) (Nat.le_refl _) hzb2) (Nat.le_refl _) hzb2
      have hb0 : (r == 0) = false := by simpa using hq0
      have hb1 : (r == 1) = false := by simpa using hq1
      have hb2 : (r == 2) = false := by simpa using hq2
      have hb3 : (r == 3) = false := by simpa using hq3
      clear p0 p1 p2 p3 p4 pf
      have HRes := Lib.hid (And.intro HF.out.box HF.out.free)
      have hCO : CalO wz.heap.size (w8) ⟨f, T, wd, xa, xr⟩ (.slice a1 na c1) (.slice a2 nr c2) := ⟨HF.out.adds, HF.out.rems⟩
      have HCO := Lib.hid hCO
      have z0 : (w8).cell? ⟨w.heap.size, 0, none⟩ = some (.int .i64 0) := HP.out.2.2.cell HZ.out.1.1 hzb
      have z1 : (w8).cell? ⟨w.heap.size, 1, none⟩ = some (.int .i64 0) := HP.out.2.2.cell HZ.out.1.2.1 hzb
      have z2 : (w8).cell? ⟨w.heap.size, 2, none⟩ = some (.int .i64 0) := HP.out.2.2.cell HZ.out.1.2.2.1 hzb
      have z3 : (w8).cell? ⟨w.heap.size, 3, none⟩ = some (.slice none 0 0) := HP.out.2.2.cell HZ.out.1.2.2.2.1 hzb
      have z4 : (w8).cell? ⟨w.heap.size, 4, none⟩ = some (.slice none 0 0) := HP.out.2.2.cell HZ.out.1.2.2.2.2 hzb
      have zf : ∀ o, (w8).frozen? ⟨w.heap.size, o, none⟩ = false := fun o => by
        rw [World.frozen?_of_block (a := ⟨w.heap.size, o, none⟩) (HP.out.2.2.block w.heap.size (by omega) hzb)]
        exact HZ.out.2 o
      obtain ⟨⟨p0, p1, p2, p3, p4⟩, pf⟩ := HRes.out
      have p0 : (w8).cell? ⟨xb, 0, none⟩ = some (.int .i64 (f)) := p0
      have p1 : (w8).cell? ⟨xb, 1, none⟩ = some (.int .i64 (T)) := p1
      have p2 : (w8).cell? ⟨xb, 2, none⟩ = some (.int .i64 (wd)) := p2
      go_wp2_with fail
      refine bodyPost_ret (v := .agg #[.int .i64 (f), .int .i64 (T), .int .i64 (wd), .slice a1 na c1, .slice a2 nr c2]) ?_ ?_ ?_
      · simp only [results, Try.results62]; go_simp
      · rfl
      · refine ⟨⟨⟨f, T, wd, xa, xr⟩, .slice a1 na c1, .slice a2 nr c2, rfl, ?_, ?_⟩, ?_⟩
        · exact ⟨⟨hf.1, hf.2⟩, ⟨by show -1 ≤ T; omega, by show T ≤ 3651; omega⟩, ⟨by show -1 ≤ wd; omega, by show wd ≤ 128; omega⟩, by first | omega | (have := HN.out.1; have := HN.out.2.1; simp; omega), HN.out.2.2.1, HN.out.2.2.2⟩
        · rw [← HSz.out]; exact ((((HCO.out.set _ 0 (by omega) _).set _ 1 (by omega) _).set _ 2 (by omega) _).set _ 3 (by omega) _).set _ 4 (by omega) _
        · have h1 : CurPost w b (n + 200) v (w8) := curPost_mono (curPost_trans HP0.out HP.out) (by omega)
          exact curPost_set HV0.out (curPost_set HV0.out (curPost_set HV0.out (curPost_set HV0.out (curPost_set HV0.out h1 (Nat.le_refl _) hzb2) (Nat.le_refl _) hzb2) (Nat.le_refl _) hzb2) (Nat.le_refl _) hzb2) (Nat.le_refl _) hzb2
    · have HOn := Lib.hid (one_any b (n + 6 + 2 * k) v 6 wr HP.out.1 HP.out.2.1 (by omega) (by omega))
      go_wp2_with fail
      go_at_call 64
      refine HOn.out.mono ?_
      rintro e w5 ⟨⟨r, rfl⟩, hp⟩
      have HF := Lib.hid (HF.out.cur hp hltz hxb2.symm)
      have HP := Lib.hid (curPost_trans HP.out hp)
      clear hp HOn p0 p1 p2 p3 p4 pf
      obtain ⟨p0, p1, p2, p3, p4⟩ := HF.out.box
      have p0 : w5.cell? ⟨xb, 0, none⟩ = some (.int .i64 f) := p0
      have p1 : w5.cell? ⟨xb, 1, none⟩ = some (.int .i64 T) := p1
      have p2 : w5.cell? ⟨xb, 2, none⟩ = some (.int .i64 wd) := p2
      have pf := HF.out.free
      have hwk : IntKind.i64.wrap (f + (k : Int) + 1) = f + (k : Int) + 1 := IntWalk.i64_in _ (by omega)
      cases r
      · go_wp2_with fail
        exact ⟨⟨k + 1, na, nr, a1, c1, a2, c2, xa, xr, by first | rfl | (congr 1; push_cast; omega), by omega, hnn, HN.out, HF.out, curPost_mono HP.out (by omega)⟩, by simp [RowKit.intOf]; omega⟩
      · have HReg := Lib.hid (l3Regular_any _ _ (f + (k : Int)) w5 HF.out.calAt ⟨hf.1, hT1.1, by show T ≤ 3650; omega, hwd.1, hwd.2⟩)
        generalize regB ⟨f, T, wd, xa, xr⟩ (f + (k : Int)) = g at *
        go_wp2_with fail
        go_at_call 74
        refine HReg.out.mono ?_
        rintro e w6 ⟨rfl, hb⟩
        have HF := Lib.hid (HF.out.keep hb)
        have HP := Lib.hid (curPost_later HV.out hltz HP.out hb)
        clear hb HReg p0 p1 p2 p3 p4 pf
        obtain ⟨p0, p1, p2, p3, p4⟩ := HF.out.box
        have p0 : w6.cell? ⟨xb, 0, none⟩ = some (.int .i64 f) := p0
        have p1 : w6.cell? ⟨xb, 1, none⟩ = some (.int .i64 T) := p1
        have p2 : w6.cell? ⟨xb, 2, none⟩ = some (.int .i64 wd) := p2
        have pf := HF.out.free
        cases g
        · have HO : Hid (w6.ownsRow wz.heap.size 3 1 (.slice a1 na c1) na (ints xa)) := by show World.ownsRow _ _ _ _ _ _ _; have h := HF.out.adds; rw [show (xa : List Int).length = na from HN.out.1.symm] at h; exact h
          have hzW : wz.heap.size ≤ w6.heap.size := HP.out.2.2.size
          go_wp2_with (at_builtin; refine wpList_append_own_at _ rfl _ _ 34 rfl wz.heap.size 3 i0 (.int .i64 0) 1 8 Try.underlying34 hi' iz0 iz1 iz2 rfl (by decide) (.slice a1 na c1) na _ rfl (HO.out.alloc _) ⟨w6.heap.size, 0, none⟩ 1 1 [.int .i64 (f + (k : Int))] rfl rfl ?c1 ?c2 ?c3 ?c4 ?c5 ?_)
          case c1 => exact one_new _ _
          case c2 => exact fit_one w6 _ (t := 3)
          case c3 => unfold maxLen; omega
          case c4 => omega
          case c5 => simp; omega
          intro v' w7 hown' hgrow _ hloc
          obtain ⟨⟨q0, q1, q2, q3, q4⟩, hf4⟩ := HF.out.mid _ hgrow HF.out.offA
          have HFN := Lib.hid (HF.out.addA (x := f + (k : Int)) hzW (by rw [show (xa : List Int).length = na from HN.out.1.symm]; exact hown') hgrow hloc)
          have HPN := Lib.hid (curPost_set (o := 3) (u := v') HV.out (cur_grown HV.out hltz (curPost_alloc HP.out _) hgrow (fun g hg => (HO.out.lt g hg).1)) hxb hxb2)
          obtain ⟨av', cv', rfl⟩ := own_shape hown'
          clear hown' hgrow hloc HO p0 p1 p2 p3 p4 pf
          go_wp2_with fail
          exact ⟨⟨k + 1, na + 1, nr, av', cv', a2, c2, xa ++ [f + (k : Int)], xr, by first | rfl | (congr 1; push_cast; omega), by omega, by omega, ⟨by simp [HN.out.1], by simp [HN.out.2.1], fun x hx => by rcases List.mem_append.1 hx with h | h; exact HN.out.2.2.1 x h; simp at h; omega, HN.out.2.2.2⟩, HFN.out, curPost_mono HPN.out (by omega)⟩, by simp [RowKit.intOf]; omega⟩
        · have HO : Hid (w6.ownsRow wz.heap.size 3 1 (.slice a2 nr c2) nr (ints xr)) := by show World.ownsRow _ _ _ _ _ _ _; have h := HF.out.rems; rw [show (xr : List Int).length = nr from HN.out.2.1.symm] at h; exact h
          have hzW : wz.heap.size ≤ w6.heap.size := HP.out.2.2.size
          go_wp2_with (at_builtin; refine wpList_append_own_at _ rfl _ _ 34 rfl wz.heap.size 3 i0 (.int .i64 0) 1 8 Try.underlying34 hi' iz0 iz1 iz2 rfl (by decide) (.slice a2 nr c2) nr _ rfl (HO.out.alloc _) ⟨w6.heap.size, 0, none⟩ 1 1 [.int .i64 (f + (k : Int))] rfl rfl ?c1 ?c2 ?c3 ?c4 ?c5 ?_)
          case c1 => exact one_new _ _
          case c2 => exact fit_one w6 _ (t := 3)
          case c3 => unfold maxLen; omega
          case c4 => omega
          case c5 => simp; omega
          intro v' w7 hown' hgrow _ hloc
          obtain ⟨⟨q0, q1, q2, q3, q4⟩, hf4⟩ := HF.out.mid _ hgrow HF.out.offR
          have HFN := Lib.hid (HF.out.addR (x := f + (k : Int)) hzW (by rw [show (xr : List Int).length = nr from HN.out.2.1.symm]; exact hown') hgrow hloc)
          have HPN := Lib.hid (curPost_set (o := 4) (u := v') HV.out (cur_grown HV.out hltz (curPost_alloc HP.out _) hgrow (fun g hg => (HO.out.lt g hg).1)) hxb hxb2)
          obtain ⟨av', cv', rfl⟩ := own_shape hown'
          clear hown' hgrow hloc HO p0 p1 p2 p3 p4 pf
          go_wp2_with fail
          exact ⟨⟨k + 1, na, nr + 1, a1, c1, av', cv', xa, xr ++ [f + (k : Int)], by first | rfl | (congr 1; push_cast; omega), by omega, by omega, ⟨by simp [HN.out.1], by simp [HN.out.2.1], HN.out.2.2.1, fun x hx => by rcases List.mem_append.1 hx with h | h; exact HN.out.2.2.2 x h; simp at h; omega⟩, HFN.out, curPost_mono HPN.out (by omega)⟩, by simp [RowKit.intOf]; omega⟩
end Go.Proofs.Ytemejcbilhcebaa

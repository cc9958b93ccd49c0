/-
  JOINED TEXTS, each under its own namespace line: OffsFact, CodeIn.
-/
import Derived.Test.YtfgkfdkdjegaiaaMk36
import Derived.Test.YtfgkfdkdjegaiaaBestP
import Derived.Test.YtfgkfdkdjegaiaaMk01
import Derived.ProofKit
import Derived.OpenShut
namespace Go.Proofs.Ytfgkfdkdjegaiaa
set_option linter.unusedVariables false
set_option linter.unusedSimpArgs false

theorem bestA_of {n : NetD} {p : Int} {xs : List PatternD} {stop : Int} (hp : 1 ≤ p) (h : 0 < (restS n p xs stop).length) : ∀ k, 1 ≤ k →
    (∃ c : Nat, c < k ∧ bestA n p xs stop k = (oT xs p c, gapT n p (tT xs p c) stop)) ∧ ∀ c : Nat, c < k → (bestA n p xs stop k).2 ≤ gapT n p (tT xs p c) stop
  | 0, h1 => by omega
  | 1, _ => by
    have hg := gapT_in (n := n) (stop := stop) (ys := tT xs p (0 : Nat)) hp (by rw [restS_same hp (tT_same xs p _)]; exact h)
    have hc : gapT n p (tT xs p (0 : Nat)) stop < (bestA n p xs stop 0).2 := by show _ < p + 1; omega
    have e := bestA_yes hc
    refine ⟨⟨0, by omega, e⟩, fun c hc => ?_⟩
    obtain rfl : c = 0 := by omega
    rw [e]; exact Int.le_refl _
  | k + 2, _ => by
    obtain ⟨⟨c0, hc0, e0⟩, hall⟩ := bestA_of hp h (k + 1) (by omega)
    by_cases hc : gapT n p (tT xs p ((k + 1 : Nat) : Int)) stop < (bestA n p xs stop (k + 1)).2
    · have e := bestA_yes hc
      refine ⟨⟨k + 1, by omega, e⟩, fun c hck => ?_⟩
      rw [e]
      by_cases hcc : c < k + 1
      · have := hall c hcc
        show gapT n p (tT xs p ((k + 1 : Nat) : Int)) stop ≤ _
        omega
      · obtain rfl : c = k + 1 := by omega
        exact Int.le_refl _
    · have e := bestA_no hc
      rw [e]
      refine ⟨⟨c0, by omega, e0⟩, fun c hck => ?_⟩
      by_cases hcc : c < k + 1
      · exact hall c hcc
      · obtain rfl : c = k + 1 := by omega
        omega

theorem own_code {n : NetD} {p : Int} {xs : List PatternD} (h : PatsGood n p xs) : ∃ c : Nat, c < manyN p xs.length ∧ tT xs p c = xs := by
  obtain ⟨-, ⟨hp1, hp2⟩, ⟨hl1, hl3⟩, hx⟩ := h
  obtain ⟨q, rfl⟩ := Int.eq_ofNat_of_zero_le (show 0 ≤ p by omega)
  have key : ∀ c : Nat, (∀ j (hj : j < xs.length), 0 < j → dgt (q : Int) c (xs.length - 1 - j) = xs[j].offs) → tT xs (q : Int) c = xs := by
    intro c hc
    refine List.ext_getElem (tT_len xs _ _) (fun j h1 h2 => ?_)
    rw [tT_get h2]
    split
    · rename_i h0; rw [hc j h2 h0]
    · rfl
  unfold manyN
  rw [Int.toNat_natCast]
  have : xs.length = 1 ∨ xs.length = 2 ∨ xs.length = 3 := by omega
  rcases this with e | e | e
  · refine ⟨0, by rw [e]; simp, key 0 (fun j hj h0 => by omega)⟩
  · obtain ⟨a, ha⟩ := Int.eq_ofNat_of_zero_le (hx 1 (by omega)).2.1
    have ha2 := (hx 1 (by omega)).2
    rw [ha] at ha2
    refine ⟨a, by rw [e]; simp; omega, key a (fun j hj h0 => ?_)⟩
    obtain rfl : j = 1 := by omega
    rw [e, ha]
    have := dgt_last (p := (q : Int)) (c := 0) (o := (a : Int)) hp1 ha2
    rw [Int.zero_mul, Int.zero_add] at this
    exact this
  · obtain ⟨a, ha⟩ := Int.eq_ofNat_of_zero_le (hx 1 (by omega)).2.1
    obtain ⟨b, hb⟩ := Int.eq_ofNat_of_zero_le (hx 2 (by omega)).2.1
    have ha2 := (hx 1 (by omega)).2
    have hb2 := (hx 2 (by omega)).2
    rw [ha] at ha2
    rw [hb] at hb2
    have hb3 : b < q := by omega
    have ha3 : a + 1 ≤ q := by omega
    have hm : (a + 1) * q ≤ q * q := Nat.mul_le_mul_right q ha3
    have hm2 : (a + 1) * q = a * q + q := by rw [Nat.add_mul]; omega
    refine ⟨a * q + b, by rw [e]; simp [Nat.pow_succ]; omega, key _ (fun j hj h0 => ?_)⟩
    have hc : ((a * q + b : Nat) : Int) = (a : Int) * (q : Int) + (b : Int) := by push_cast; rfl
    rw [hc]
    have : j = 1 ∨ j = 2 := by omega
    rcases this with rfl | rfl
    · rw [e, ha]
      show dgt (q : Int) ((a : Int) * q + b) (0 + 1) = _
      rw [dgt_next hp1 hb2]
      have := dgt_last (p := (q : Int)) (c := 0) (o := (a : Int)) hp1 ha2
      rw [Int.zero_mul, Int.zero_add] at this
      exact this
    · rw [e, hb]
      show dgt (q : Int) ((a : Int) * q + b) 0 = _
      exact dgt_last hp1 hb2

theorem lg_gapT {n : NetD} {p : Int} {ys : List PatternD} {stop : Int} (h : servB n p ys stop = true) : (lgF n p ys stop).1 = gapT n p ys stop := by
  rw [lgF_yes h]
  show lgV (gpF n p ys stop) = _
  unfold gpF gapT
  rw [prF_true (prF_ask (servB_yes h))]
theorem serv_of {n : NetD} {p : Int} {ys : List PatternD} {stop : Int} (hg : PatsGood n p ys) (h0 : 0 ≤ stop) (h1 : stop < (n.stops.length : Int)) (h : 0 < (restS n p ys stop).length) : servB n p ys stop = true :=
  servB_len (by rw [prF_true (askG_yes hg h0 h1)]; exact h)

theorem bo_facts {n : NetD} {p : Int} {xs : List PatternD} {stop : Int} (h : boB n p xs stop = true) :
    (boF n p xs stop).1.length = xs.length ∧ (1 ≤ xs.length ∧ xs.length ≤ 3) ∧ servB n p xs stop = true ∧ (boF n p xs stop).2 ≤ (lgF n p xs stop).1 ∧
    (∀ (h1 : 0 < (boF n p xs stop).1.length) (h2 : 0 < xs.length), (boF n p xs stop).1[0] = xs[0].offs) ∧
    ∃ ys : List PatternD, ys.length = xs.length ∧ (∀ j (hj : j < xs.length) (hy : j < ys.length) (ho : j < (boF n p xs stop).1.length), ys[j] = ⟨xs[j].line, (boF n p xs stop).1[j]⟩) ∧ servB n p ys stop = true ∧ (lgF n p ys stop).1 = (boF n p xs stop).2 := by
  obtain ⟨hg, hp20, h0⟩ := boB_iff h
  have hsv : servB n p xs stop = true := by unfold boB at h; simp only [Bool.and_eq_true] at h; exact h.1
  have hask := askG_iff (prF_ask (servB_yes hsv))
  have hm := manyN_in (p := p) (L := xs.length) ⟨hg.2.1.1, hp20⟩ hg.2.2.1
  obtain ⟨⟨c, hc, e⟩, hall⟩ := bestA_of (n := n) (stop := stop) hg.2.1.1 h0 (manyN p xs.length) hm.1
  obtain ⟨c1, hc1, e1⟩ := own_code hg
  have hle := hall c1 hc1
  rw [e1] at hle
  rw [boF_yes h, e] at *
  have hsy : servB n p (tT xs p c) stop = true := serv_of (tT_good hg c) hask.2.1 hask.2.2 (by rw [restS_same hg.2.1.1 (tT_same xs p c)]; exact h0)
  refine ⟨oT_len xs p c, hg.2.2.1, hsv, by rw [lg_gapT hsv]; exact hle, fun h1 h2 => ?_, tT xs p c, tT_len xs p c, fun j hj hy ho => ?_, hsy, lg_gapT hsy⟩
  · simp [oT, List.getD, h2]
  · have hmap : (oT xs p c)[j]'ho = ((tT xs p c)[j]'hy).offs := by
      have := oT_map xs p c
      simp [this]
    have hl := (tT_same xs p c).2 j hj hy
    show _ = (⟨xs[j].line, (oT xs p c)[j]'ho⟩ : PatternD)
    rw [hmap, ← hl]
theorem tw_facts {n : NetD} {p : Int} {xs : List PatternD} {a b stop walk : Int} (h : twB n p xs a b stop walk = true) : (1 ≤ p ∧ p ≤ 60) ∧ (0 ≤ walk ∧ walk ≤ 60) ∧ walk ≤ twF n p xs a b stop walk ∧ twF n p xs a b stop walk < walk + p := by
  have e : twF n p xs a b stop walk = walk + twD (restI n p (pt xs a) stop) walk (restI n p (pt xs b) stop) p := by unfold twF; rw [h]; rfl
  rw [e]
  unfold twB at h
  simp only [Bool.and_eq_true, decide_eq_true_eq] at h
  obtain ⟨hm, -, -, hw, -⟩ := h
  have hp : 1 ≤ p ∧ p ≤ 60 := by
    unfold mtB at hm
    simp only [Bool.and_eq_true, decide_eq_true_eq] at hm
    exact (patsB_iff hm.1).2.1
  have hd := twD_in (r := restI n p (pt xs a) stop) (walk := walk) (tgt := restI n p (pt xs b) stop) hp.1
  exact ⟨hp, hw, by omega, by omega⟩
end Go.Proofs.Ytfgkfdkdjegaiaa

namespace Go.Proofs.Ytfgkfdkdjegaiaa
open Go.RowKit Go.ChangeShapes Go.WideShapes Go.ChangeAt
set_option linter.unusedVariables false

set_option maxRecDepth 100000 in
theorem codeAt_of {H : Type} {enc : TypeId × Value → H} {W : World} {base base' : Nat} {spare : Nat → Bool} {held : Bool} {v : Value} {d : DataW H} {p : List MemPlace}
    (hv : Value.okWide Try.prog W .any base 22 v) (h : DataW.Trod enc Try.prog W base' spare held 22 v d p) : CodeAt W v := by
  obtain ⟨a, len, cap, rfl⟩ := okWide_slice Try.underlying22 hv
  obtain ⟨fuel, hf⟩ := h
  rcases open_ints Try.underlying22 Try.underlying5 (by kernel_rfl) hf with ⟨hcs, _⟩ | ⟨x, l, c, zs, hcs, _, hl, hm, hz, _, hcell, hwz⟩
  · simp [Value.cells] at hcs
    obtain ⟨rfl, rfl, rfl⟩ := hcs
    exact ⟨[], none, 0, rfl, Nat.le_refl _, by decide, fun k u hu => by simp at hu⟩
  · simp [Value.cells] at hcs
    obtain ⟨rfl, rfl, rfl⟩ := hcs
    have hz' : len ≤ zs.length := by rw [hz]; split <;> omega
    refine ⟨(zs.take len).map fun z => UInt8.ofNat z.toNat, some x, cap, by simp [Nat.min_eq_left hz'], by simp; omega, hm, fun k u hu => ?_⟩
    have hk : k < len := by have := (List.getElem?_eq_some_iff.1 hu).1; simp at this; omega
    have hk' : k < zs.length := by omega
    have hcl := hcell k hk'
    obtain ⟨b, off, sp⟩ := x
    have hsp : sp = none := by
      have := World.cell?_spot (hcell 0 (by omega))
      simpa [Addr.add] using this
    subst hsp
    rw [addr_add] at hcl
    refine ⟨b, off, rfl, World.block_lt_of_cell? W _ hcl, ?_⟩
    rw [hcl]
    have hw := hwz _ (List.getElem_mem hk')
    have hb : 0 ≤ zs[k] ∧ zs[k] ≤ 255 := by simpa [Lit.wf, IntKind.min, IntKind.max, IntKind.signed, IntKind.bits] using hw
    have hu' : byteV (UInt8.ofNat (zs[k]).toNat) = u := by
      have := hu
      simp [hk, List.getElem?_eq_getElem hk'] at this
      exact this
    rw [← hu', byteV]
    have : ((UInt8.ofNat (zs[k]).toNat).toNat : Int) = zs[k] := by rw [UInt8.toNat_ofNat']; omega
    rw [this]
    simp [List.getD, List.getElem?_eq_getElem hk']

end Go.Proofs.Ytfgkfdkdjegaiaa

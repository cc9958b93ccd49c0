/-
  THE WALK of laws.FnStrings: for every code the law returns true and nothing that was in memory turns.
-/
import Derived.Test.YtmjopejjbdmniaaDoorParse
import Derived.Test.YtmjopejjbdmniaaDoorVerify
import Derived.Test.YtmjopejjbdmniaaDoorLaid
import Derived.Test.YtmjopejjbdmniaaDoorDraw1b
import Derived.Test.YtmjopejjbdmniaaDoorCode
import Derived.Test.YtmjopejjbdmniaaDoorOneByte
import Derived.Shelf.Vars
import Derived.Lib.ConvBytes
import Derived.Lib.SmallJoins
import Derived.RegionCalls
namespace Go.Proofs.YtmjopejjbdmniaaDoor.fnStrings
open Go.RowKit Go.Sort
open Go.Lib
set_option linter.unusedVariables false

/-- what both FormatInts answer -/
def fmtV (n : Int) : ByteArray × Bool := if -999999 ≤ n ∧ n ≤ 999999 then (⟨(itoa n).toArray⟩, true) else (⟨#[]⟩, false)
/-- what both AppendChecksums answer -/
noncomputable def sealV (s : ByteArray) : ByteArray × Bool := by
  classical exact if Seals s.data.toList then (⟨(sealL s.data.toList).toArray⟩, true) else (⟨#[]⟩, false)

theorem back_of_fmt (n : Int) : (fmtV n).2 = true → readV (fmtV n).1.data.toList = (n, true) := by
  unfold fmtV
  split
  · rename_i h
    intro _
    exact readV_of ⟨h.1, h.2, by simp⟩
  · intro h; cases h

theorem implFormat_v (n : Int) (w : World) (htab : TabBelow Tryd.prog w.heap.size w "internal/strconv.uint64pow10" .u64 pow10Tab) :
    Calls Tryd.prog 10 #[.int .i64 n] w fun e w' => e = .returned (.tuple #[.string (fmtV n).1, .bool (fmtV n).2]) ∧ Below w.heap.size w w' := by
  by_cases h : -999999 ≤ n ∧ n ≤ 999999
  · rw [fmtV, if_pos h]; exact implFormat_yes n w h.1 h.2 (htab.here)
  · rw [fmtV, if_neg h]; exact (implFormat_no n w (by omega)).mono fun e w' ⟨he, hw⟩ => ⟨he, hw ▸ Below.refl _ _⟩
theorem specFormat_v (n : Int) (w : World) :
    Calls Tryd.prog 11 #[.int .i64 n] w fun e w' => e = .returned (.tuple #[.string (fmtV n).1, .bool (fmtV n).2]) ∧ Below w.heap.size w w' := by
  by_cases h : -999999 ≤ n ∧ n ≤ 999999
  · rw [fmtV, if_pos h]; exact (specFormat_yes n w h.1 h.2).mono fun e w' ⟨he, m, hw⟩ => ⟨he, hw ▸ below_drewN' w m⟩
  · rw [fmtV, if_neg h]; exact (specFormat_no n w (by omega)).mono fun e w' ⟨he, hw⟩ => ⟨he, hw ▸ Below.refl _ _⟩
theorem implAppend_v (s : ByteArray) (w : World) (hs : s.size ≤ 4000) (htab : TabBelow Tryd.prog w.heap.size w "internal/strconv.uint64pow10" .u64 pow10Tab) :
    Calls Tryd.prog 16 #[.string s] w fun e w' => e = .returned (.tuple #[.string (sealV s).1, .bool (sealV s).2]) ∧ Below w.heap.size w w' := by
  by_cases h : Seals s.data.toList
  · rw [sealV, if_pos h]; exact implAppend_yes s w h htab.here
  · rw [sealV, if_neg h]; exact implAppend_no s w (by unfold maxLen; omega) h htab.here
theorem specAppend_v (s : ByteArray) (w : World) (hs : s.size ≤ 4000) :
    Calls Tryd.prog 17 #[.string s] w fun e w' => e = .returned (.tuple #[.string (sealV s).1, .bool (sealV s).2]) ∧ Below w.heap.size w w' := by
  by_cases h : Seals s.data.toList
  · rw [sealV, if_pos h]; exact (specAppend_yes s w h).mono fun e w' ⟨he, m, hw⟩ => ⟨he, hw ▸ below_drewN' w m⟩
  · rw [sealV, if_neg h]; exact (specAppend_no s w (by omega) h).mono fun e w' ⟨he, m, hw⟩ => ⟨he, hw ▸ below_drewN' w m⟩

/-- what is known of a sealed text -/
def SealFact (x y : ByteArray) (sb : Bool) : Prop := (sb = false ∧ y = ⟨#[]⟩) ∨ (sb = true ∧ (35 : UInt8) ∉ x.data.toList ∧ y.data.toList = sealL x.data.toList ∧ y.size ≤ 4000)
theorem sealFact_of (x : ByteArray) : SealFact x (sealV x).1 (sealV x).2 := by
  unfold sealV
  split
  · rename_i h
    exact .inr ⟨rfl, h.2.1, by simp, by rw [size_mk]; exact h.2.2⟩
  · exact .inl ⟨rfl, rfl⟩
theorem bytesCells_at (w : World) (e : TypeId) (s : ByteArray) (k : Nat) (hk : k < s.data.toList.length) : (bytesCells w e s)[k]? = some (.int .u8 ((s.data.toList[k]'hk).toNat : Int)) := by
  have h1 : k < s.data.size := by simpa using hk
  have h2 : k < (s.data.map fun b => Value.int .u8 (b.toNat : Int)).size := by rw [Array.size_map]; exact h1
  unfold bytesCells
  rw [Array.getElem?_append_left h2, Array.getElem?_eq_getElem h2]
  simp
theorem bytesCells_len (w : World) (e : TypeId) (s : ByteArray) (k : Nat) (hk : k < s.data.toList.length) : k < (bytesCells w e s).size := by
  have := bytesCells_at w e s k hk
  exact (Array.getElem?_eq_some_iff.1 this).1
theorem bytes_frozen {w : World} {g k : Nat} {cs : Array Value} {t : TypeId} {z : Nat} (h : w.heap[g]? = some (.cells cs t (cs.size, z))) (hk : k < cs.size) : w.frozen? ⟨g, k, none⟩ = false := by
  have : ¬ (cs.size ≤ k) := by omega
  simp [World.frozen?, h, this]

/-- the other byte -/
theorem xor_byte (y : UInt8) (r : Int) (h0 : 0 ≤ r) (h1 : r ≤ 255) : ∃ d : UInt8, bits BinOp.xor IntKind.u8 (y.toNat : Int) (IntKind.u8.wrap (IntKind.i64.wrap (1 + r.tmod 255))) = (d.toNat : Int) ∧ d ≠ y := by
  have hr : r.tmod 255 = r % 255 := Int.tmod_eq_emod_of_nonneg h0
  obtain ⟨m, hm, hm0, hm1⟩ : ∃ m : Nat, IntKind.u8.wrap (IntKind.i64.wrap (1 + r.tmod 255)) = (m : Int) ∧ 0 < m ∧ m < 256 := by
    refine ⟨(1 + r % 255).toNat, ?_, by omega, by omega⟩
    rw [hr, IntKind.wrap_i64, IntKind.wrap_u8]; omega
  rw [hm, u8_xor_nat y.toNat m y.toNat_lt hm1]
  have hlt : y.toNat ^^^ m < 2 ^ 8 := Nat.xor_lt_two_pow (by have := y.toNat_lt; omega) (by omega)
  refine ⟨UInt8.ofNat (y.toNat ^^^ m), by rw [UInt8.toNat_ofNat']; omega, fun e => ?_⟩
  have e2 : y.toNat ^^^ m = y.toNat := by
    have := congrArg UInt8.toNat e
    rw [UInt8.toNat_ofNat'] at this; omega
  have e3 : m = 0 := by
    have : y.toNat ^^^ (y.toNat ^^^ m) = y.toNat ^^^ y.toNat := by rw [e2]
    rwa [← Nat.xor_assoc, Nat.xor_self, Nat.zero_xor] at this
  omega

theorem xor_byte2 (y : UInt8) (r : Int) (h0 : 0 ≤ r) (h1 : r ≤ 255) : ∃ d : UInt8, bits BinOp.xor IntKind.u8 (y.toNat : Int) (1 + r % 255) = (d.toNat : Int) ∧ d ≠ y := by
  obtain ⟨d, hd, hne⟩ := xor_byte y r h0 h1
  refine ⟨d, ?_, hne⟩
  rw [← hd, Int.tmod_eq_emod_of_nonneg h0, IntKind.wrap_i64, IntKind.wrap_u8]
  congr 1; omega


theorem xor_same (y : UInt8) (r : Int) (h0 : 0 ≤ r) (h1 : r ≤ 255) {d d2 : UInt8} (e1 : bits BinOp.xor IntKind.u8 (y.toNat : Int) (IntKind.u8.wrap (IntKind.i64.wrap (1 + r.tmod 255))) = (d.toNat : Int)) (e2 : bits BinOp.xor IntKind.u8 (y.toNat : Int) (1 + r % 255) = (d2.toNat : Int)) : d2 = d := by
  have e : IntKind.u8.wrap (IntKind.i64.wrap (1 + r.tmod 255)) = 1 + r % 255 := by
    rw [Int.tmod_eq_emod_of_nonneg h0, IntKind.wrap_i64, IntKind.wrap_u8]; omega
  rw [e, e2] at e1
  exact UInt8.toNat_inj.1 (by omega)
theorem openL_seal (l : List UInt8) (h : (35 : UInt8) ∉ l) : openL (sealL l) = l := by
  have e : sealL l = l ++ 35 :: itoa (sumL l) := by simp [sealL]
  rw [e, openL, List.takeWhile_append, takeWhile_all 35 l h]
  simp
theorem opens_seal {x y : ByteArray} (h1 : (35 : UInt8) ∉ x.data.toList) (h2 : y.data.toList = sealL x.data.toList) (h3 : y.size ≤ 4000) : Opens y.data.toList ∧ (⟨(openL y.data.toList).toArray⟩ : ByteArray) = x := by
  rw [h2]
  refine ⟨⟨by rw [← h2, length_list]; exact h3, by rw [openL_seal _ h1]⟩, by rw [openL_seal _ h1]⟩

/-- what the walk carries from world to world -/
structure Env (W : World) (v0 : Value) (x0 x1 : TypeId) (y0 y1 : Value) (mx : Int) (w : World) : Prop where
  bel : Below W.heap.size W w
  code : CodeAt w v0
  tab : TabBelow Tryd.prog w.heap.size w "internal/strconv.uint64pow10" .u64 pow10Tab
  e0 : w.cell? ⟨0, 0, none⟩ = some (.iface x0 y0)
  e1 : w.cell? ⟨1, 0, none⟩ = some (.iface x1 y1)
  mx : w.cell? ⟨2, 0, none⟩ = some (.int .i64 mx)
theorem Env.step {W : World} {v0 : Value} {x0 x1 : TypeId} {y0 y1 : Value} {mx : Int} {w w' : World} (h : Env W v0 x0 x1 y0 y1 mx w) (hb : Below w.heap.size w w') : Env W v0 x0 x1 y0 y1 mx w' :=
  ⟨h.bel.trans (hb.mono h.bel.size), by obtain ⟨l, hr⟩ := h.code; exact ⟨l, hr.below rfl hb⟩, fun w2 h2 => h.tab w2 (hb.trans (h2.mono hb.size)),
    by rw [hb.cell (World.block_lt_of_cell? w _ h.e0)]; exact h.e0, by rw [hb.cell (World.block_lt_of_cell? w _ h.e1)]; exact h.e1, by rw [hb.cell (World.block_lt_of_cell? w _ h.mx)]; exact h.mx⟩

set_option maxRecDepth 100000 in
set_option maxHeartbeats 4000000 in
theorem core (W : World) (a : Option Addr) (n c : Nat) (x0 x1 : TypeId) (y0 y1 : Value) (mx : Int) (h : Env W (.slice a n c) x0 x1 y0 y1 mx W) (hm : n ≤ maxLen) :
    Calls Tryd.prog 3 #[.slice a n c] W fun e w' => e = .returned (.bool true) ∧ Below W.heap.size W w' := by
  obtain ⟨b1, b2⟩ := vBig_any a n c W hm
  have E0 := Lib.hid h
  clear h
  by_cases hbig : 65536 < n
  · have HB := Lib.hid (b1 hbig)
    clear b1 b2
    go_enter Tryd.func3, Tryd.ntmps3
    go_wp2_with (go_at_call 8; refine HB.out.mono ?_; rintro e w' ⟨rfl, rfl⟩)
    go_ret
    exact ⟨rfl, Below.refl _ _⟩
  · have HB := Lib.hid (b2 (by omega))
    clear b1 b2
    go_enter Tryd.func3, Tryd.ntmps3
    go_wp2_with fail
    go_at_call 8
    refine HB.out.mono ?_
    rintro e w' ⟨rfl, rfl⟩
    clear HB
    go_wp2_with fail
    go_at_call 9
    refine (drawFormatInt_any _ W E0.out.code).mono ?_
    rintro e w1 ⟨⟨z, rfl, z0, z1⟩, hb⟩
    have E1 := Lib.hid (E0.out.step hb)
    clear hb
    go_wp2_with fail
    go_at_call 10
    refine (implFormat_v z w1 E1.out.tab).mono ?_
    rintro e w2 ⟨rfl, hb⟩
    have E2 := Lib.hid (E1.out.step hb)
    clear hb E1
    go_wp2_with fail
    go_at_call 11
    refine (specFormat_v z w2).mono ?_
    rintro e w3 ⟨rfl, hb⟩
    have E3 := Lib.hid (E2.out.step hb)
    have HF := Lib.hid (back_of_fmt z)
    have hfz : (fmtV z).1.size ≤ 1000 := by
      unfold fmtV
      split
      · rw [show ((⟨(itoa z).toArray⟩ : ByteArray), true).1 = (⟨(itoa z).toArray⟩ : ByteArray) from rfl, size_mk]
        have := Lib.itoa_length_le z (by omega) (by omega); omega
      · decide
    clear hb E2
    generalize fmtV z = fz at *
    obtain ⟨fs, fb⟩ := fz
    go_wp2_with fail
    go_at_call 12
    refine (drawParseInt_any _ w3 E3.out.code).mono ?_
    rintro e w4 ⟨⟨t, ht, rfl⟩, hb⟩
    have E4 := Lib.hid (E3.out.step hb)
    clear hb E3
    go_wp2_with fail
    go_at_call 13
    refine (implParse_any t w4 (by omega) E4.out.tab x0 x1 y0 y1 E4.out.e0 E4.out.e1).mono ?_
    rintro e w5 ⟨rfl, hb⟩
    have E5 := Lib.hid (E4.out.step hb)
    clear hb E4
    go_wp2_with fail
    go_at_call 14
    refine (specParse_any t w5 (by unfold maxLen; omega)).mono ?_
    rintro e w6 ⟨rfl, m6, rfl⟩
    have E6 := Lib.hid (E5.out.step (below_drewN' w5 m6))
    clear E5
    generalize w5.drewN m6 = w6 at *
    generalize readV t.data.toList = rv at *
    obtain ⟨rz, rb⟩ := rv
    go_wp2_with fail
    go_at_call 15
    refine (drawAppendChecksum_any _ w6 E6.out.code).mono ?_
    rintro e w7 ⟨⟨x, hx, rfl⟩, hb⟩
    have E7 := Lib.hid (E6.out.step hb)
    clear hb E6
    go_wp2_with fail
    go_at_call 16
    refine (implAppend_v x w7 hx E7.out.tab).mono ?_
    rintro e w8 ⟨rfl, hb⟩
    have E8 := Lib.hid (E7.out.step hb)
    clear hb E7
    go_wp2_with fail
    go_at_call 17
    refine (specAppend_v x w8 hx).mono ?_
    rintro e w9 ⟨rfl, hb⟩
    have E9 := Lib.hid (E8.out.step hb)
    clear hb E8
    have h1 : (fs.toList == fs.toList) = true := by simp
    have h2 : (fb != fb) = false := by simp
    have h3 : (rz != rz) = false := by simp
    have h4 : (rb != rb) = false := by simp
    have HSF := Lib.hid (sealFact_of x)
    generalize sealV x = sv at *
    obtain ⟨y, sb⟩ := sv
    have h5 : (y.toList == y.toList) = true := by simp
    have h6 : (sb != sb) = false := by simp
    have h7 : (z != z) = false := by simp
    go_wp2_with fail
    go_at_call 13
    refine (implParse_any fs w9 (by omega) E9.out.tab x0 x1 y0 y1 E9.out.e0 E9.out.e1).mono ?_
    rintro e w10 ⟨rfl, hb⟩
    have E10 := Lib.hid (E9.out.step hb)
    clear hb E9
    have hback : fb = true → readV fs.data.toList = (z, true) := HF.out
    clear HF
    generalize readV fs.data.toList = rv2 at *
    obtain ⟨qz, qb⟩ := rv2
    have hend : (fb = true ∧ qz = z ∧ qb = true) ∨ fb = false := by
      cases fb
      · exact .inr rfl
      · have := hback rfl; simp at this; exact .inl ⟨rfl, this⟩
    clear hback
    rcases hend with ⟨rfl, rfl, rfl⟩ | rfl
    all_goals
      rcases HSF.out with ⟨hs0, hs1⟩ | ⟨hs0, hs1, hs2, hs3⟩
    · have hs0' : sb = false := hs0
      have hs1' : y = ⟨#[]⟩ := hs1
      subst hs0' hs1'
      clear hs0 hs1 HSF
      go_wp2_with fail
      go_ret
      exact ⟨rfl, E10.out.bel⟩
    · have hs0' : sb = true := hs0
      subst hs0'
      obtain ⟨hop, hox⟩ := opens_seal hs1 hs2 hs3
      have HV := Lib.hid ((implVerify_any y w10 (by omega) mx E10.out.mx E10.out.tab).1 hop)
      rw [hox] at HV
      have hpos : 0 < y.size := by have h1 := (sealL_len x.data.toList).1; have h2 := length_list y; rw [← hs2] at h1; omega
      have hcv := fun w => Lib.run_convert_string_bytes (P := Tryd.prog) w 9 22 5 y Tryd.underlying9 Tryd.underlying22 Tryd.underlying5
      have HY := Lib.hid hs2
      have HX := Lib.hid hs1
      clear hs0 hs1 hs2 hop hox HSF
      go_wp2_with fail
      go_at_call 18
      refine HV.out.mono ?_
      rintro e w11 ⟨rfl, hb⟩
      have E11 := E10.out.step hb
      have E12 := E11.step (bytesWorld_below w11 5 y)
      have HC12 := Lib.hid E12.code
      have HE11 := Lib.hid E11
      have hblk := bytesWorld_at_new w11 5 y
      have hbel := bytesWorld_below w11 5 y
      have hcl := bytesCells_at w11 5 y
      have hcn := bytesCells_len w11 5 y
      clear hb E10 E11 E12 HV
      go_wp2_with fail
      generalize Lib.bytesWorld w11 5 y = w12 at *
      generalize bytesCells w11 5 y = bc at *
      have HBlk := Lib.hid hblk
      have HBel := Lib.hid hbel
      have HCl := Lib.hid hcl
      have HCn := Lib.hid hcn
      clear hblk hbel hcl hcn hcv
      go_at_call 19
      refine (vAt_any _ 9 w12 HC12.out (by omega) (by omega) (fun a' n' c' e => by injection e with _ e2 _; omega)).mono ?_
      rintro e w' ⟨⟨r9, rfl, r90, r91⟩, rfl⟩
      have k0 := Int.emod_nonneg r9 (b := (y.size : Int)) (by omega)
      have k1 := Int.emod_lt_of_pos r9 (b := (y.size : Int)) (by omega)
      obtain ⟨kk, hkk⟩ := Int.eq_ofNat_of_zero_le k0
      rw [hkk] at k1
      go_wp2_with fail
      have hkl : kk < y.data.toList.length := by rw [length_list]; omega
      have hcell : w12.cell? ⟨w11.heap.size, kk, none⟩ = some (.int .u8 ((y.data.toList[kk]'hkl).toNat : Int)) := by
        rw [cell_in HBlk.out]; exact HCl.out kk hkl
      have hfro : w12.frozen? ⟨w11.heap.size, kk, none⟩ = false := bytes_frozen HBlk.out (HCn.out kk hkl)
      have HVA := Lib.hid (fun w (h : CodeAt w (.slice a n c)) => vAt_any _ 10 w h (by omega) (by omega) (fun a' n' c' e => by injection e with _ e2 _; omega))
      obtain ⟨yk, hyk⟩ : ∃ yk, yk = y.data.toList[kk]'hkl := ⟨_, rfl⟩
      rw [← hyk] at hcell
      have HYK := Lib.hid hyk
      clear hyk
      go_region_with (go_at_call 19; refine (HVA.out _ (by exact HC12.out)).mono ?_; rintro e w' ⟨⟨r10, rfl, s0, s1⟩, rfl⟩)
      all_goals
        obtain ⟨d, hd, hne⟩ := xor_byte yk r10 s0 s1
        obtain ⟨d2, hd2, hne2⟩ := xor_byte2 yk r10 s0 s1
        have hdd : d2 = d := xor_same yk r10 s0 s1 hd hd2
        rw [hdd] at hd2
        clear hdd hne2
        first | rw [hd] | rw [hd2]
        obtain ⟨w14, hw14⟩ : ∃ w14, (w12.setCell ⟨w11.heap.size, kk, none⟩ (.int .u8 (d.toNat : Int))).drew = w14 := ⟨_, rfl⟩
        have hb14 : Below w11.heap.size w11 w14 := by rw [← hw14]; exact (HBel.out.setCell (p := ⟨w11.heap.size, kk, none⟩) (Nat.le_refl _) _).drew
        have hl2 : (y.data.toList.set kk d).length = y.size := by rw [List.length_set, length_list]
        have hc14 : ∀ j (hj : j < (y.data.toList.set kk d).length), w14.cell? ((⟨w11.heap.size, 0, none⟩ : Addr).add j) = some (.int .u8 (((y.data.toList.set kk d)[j]).toNat : Int)) := by
          intro j hj
          rw [addr_add, Nat.zero_add, ← hw14]
          have e1 := setCell_in HBlk.out kk (.int .u8 (d.toNat : Int))
          have e2 := cell_in e1 j
          have e3 : (w12.setCell ⟨w11.heap.size, kk, none⟩ (.int .u8 (d.toNat : Int))).drew.cell? ⟨w11.heap.size, j, none⟩ = (w12.setCell ⟨w11.heap.size, kk, none⟩ (.int .u8 (d.toNat : Int))).cell? ⟨w11.heap.size, j, none⟩ := rfl
          rw [e3, e2]
          have hj' : j < y.data.toList.length := by simpa using hj
          by_cases hjk : kk = j
          · subst hjk
            rw [Array.getElem?_setIfInBounds_self_of_lt (HCn.out kk hkl)]; simp
          · rw [Array.getElem?_setIfInBounds_ne hjk, HCl.out j hj', List.getElem_set_ne hjk]
        have hback := run_convert_bytes_back (P := Tryd.prog) w14 22 9 5 ⟨w11.heap.size, 0, none⟩ (grownCap w11 y.size 0 5) (y.data.toList.set kk d) Tryd.underlying22 Tryd.underlying5 Tryd.underlying9 hc14
        rw [hl2] at hback
        have hnop : ¬ Opens (ByteArray.mk (y.data.toList.set kk d).toArray).data.toList := by
          intro ho
          have ho2 := ho.2
          rw [show (ByteArray.mk (y.data.toList.set kk d).toArray).data.toList = y.data.toList.set kk d by simp] at ho2
          have hy := HY.out
          have hkl2 : kk < (sealL x.data.toList).length := by rw [← hy]; exact hkl
          refine not_sealed x.data.toList (openL (y.data.toList.set kk d)) kk d HX.out (takeWhile_not 35 _) hkl2 ?_ ?_
          · intro e; apply hne; rw [e, HYK.out]; simp only [hy]
          · rw [← hy]; exact ho2.symm
        have E14 := HE11.out.step hb14
        have HV2 := Lib.hid ((implVerify_any ⟨(y.data.toList.set kk d).toArray⟩ w14 (by rw [size_mk, hl2]; omega) mx E14.mx E14.tab).2 hnop)
        have HE14 := Lib.hid E14
        have hxx : (x.toList == x.toList) = true := by simp
        clear E14 hnop hc14 hl2 hb14 hcell hfro hd hd2
        generalize ByteArray.mk (y.data.toList.set kk d).toArray = y2 at *
        rw [hw14]
        clear hw14
        go_wp2_with fail
        go_at_call 18
        refine HV2.out.mono ?_
        rintro e w15 ⟨rfl, hb⟩
        have hfin := (HE14.out.step hb).bel
        clear hb
        go_wp2_with fail
        go_ret
        exact ⟨rfl, hfin⟩
    · have hs0' : sb = false := hs0
      have hs1' : y = ⟨#[]⟩ := hs1
      subst hs0' hs1'
      clear hs0 hs1 HSF
      go_wp2_with fail
      go_ret
      exact ⟨rfl, E10.out.bel⟩
    · have hs0' : sb = true := hs0
      subst hs0'
      obtain ⟨hop, hox⟩ := opens_seal hs1 hs2 hs3
      have HV := Lib.hid ((implVerify_any y w10 (by omega) mx E10.out.mx E10.out.tab).1 hop)
      rw [hox] at HV
      have hpos : 0 < y.size := by have h1 := (sealL_len x.data.toList).1; have h2 := length_list y; rw [← hs2] at h1; omega
      have hcv := fun w => Lib.run_convert_string_bytes (P := Tryd.prog) w 9 22 5 y Tryd.underlying9 Tryd.underlying22 Tryd.underlying5
      have HY := Lib.hid hs2
      have HX := Lib.hid hs1
      clear hs0 hs1 hs2 hop hox HSF
      go_wp2_with fail
      go_at_call 18
      refine HV.out.mono ?_
      rintro e w11 ⟨rfl, hb⟩
      have E11 := E10.out.step hb
      have E12 := E11.step (bytesWorld_below w11 5 y)
      have HC12 := Lib.hid E12.code
      have HE11 := Lib.hid E11
      have hblk := bytesWorld_at_new w11 5 y
      have hbel := bytesWorld_below w11 5 y
      have hcl := bytesCells_at w11 5 y
      have hcn := bytesCells_len w11 5 y
      clear hb E10 E11 E12 HV
      go_wp2_with fail
      generalize Lib.bytesWorld w11 5 y = w12 at *
      generalize bytesCells w11 5 y = bc at *
      have HBlk := Lib.hid hblk
      have HBel := Lib.hid hbel
      have HCl := Lib.hid hcl
      have HCn := Lib.hid hcn
      clear hblk hbel hcl hcn hcv
      go_at_call 19
      refine (vAt_any _ 9 w12 HC12.out (by omega) (by omega) (fun a' n' c' e => by injection e with _ e2 _; omega)).mono ?_
      rintro e w' ⟨⟨r9, rfl, r90, r91⟩, rfl⟩
      have k0 := Int.emod_nonneg r9 (b := (y.size : Int)) (by omega)
      have k1 := Int.emod_lt_of_pos r9 (b := (y.size : Int)) (by omega)
      obtain ⟨kk, hkk⟩ := Int.eq_ofNat_of_zero_le k0
      rw [hkk] at k1
      go_wp2_with fail
      have hkl : kk < y.data.toList.length := by rw [length_list]; omega
      have hcell : w12.cell? ⟨w11.heap.size, kk, none⟩ = some (.int .u8 ((y.data.toList[kk]'hkl).toNat : Int)) := by
        rw [cell_in HBlk.out]; exact HCl.out kk hkl
      have hfro : w12.frozen? ⟨w11.heap.size, kk, none⟩ = false := bytes_frozen HBlk.out (HCn.out kk hkl)
      have HVA := Lib.hid (fun w (h : CodeAt w (.slice a n c)) => vAt_any _ 10 w h (by omega) (by omega) (fun a' n' c' e => by injection e with _ e2 _; omega))
      obtain ⟨yk, hyk⟩ : ∃ yk, yk = y.data.toList[kk]'hkl := ⟨_, rfl⟩
      rw [← hyk] at hcell
      have HYK := Lib.hid hyk
      clear hyk
      go_region_with (go_at_call 19; refine (HVA.out _ (by exact HC12.out)).mono ?_; rintro e w' ⟨⟨r10, rfl, s0, s1⟩, rfl⟩)
      all_goals
        obtain ⟨d, hd, hne⟩ := xor_byte yk r10 s0 s1
        obtain ⟨d2, hd2, hne2⟩ := xor_byte2 yk r10 s0 s1
        have hdd : d2 = d := xor_same yk r10 s0 s1 hd hd2
        rw [hdd] at hd2
        clear hdd hne2
        first | rw [hd] | rw [hd2]
        obtain ⟨w14, hw14⟩ : ∃ w14, (w12.setCell ⟨w11.heap.size, kk, none⟩ (.int .u8 (d.toNat : Int))).drew = w14 := ⟨_, rfl⟩
        have hb14 : Below w11.heap.size w11 w14 := by rw [← hw14]; exact (HBel.out.setCell (p := ⟨w11.heap.size, kk, none⟩) (Nat.le_refl _) _).drew
        have hl2 : (y.data.toList.set kk d).length = y.size := by rw [List.length_set, length_list]
        have hc14 : ∀ j (hj : j < (y.data.toList.set kk d).length), w14.cell? ((⟨w11.heap.size, 0, none⟩ : Addr).add j) = some (.int .u8 (((y.data.toList.set kk d)[j]).toNat : Int)) := by
          intro j hj
          rw [addr_add, Nat.zero_add, ← hw14]
          have e1 := setCell_in HBlk.out kk (.int .u8 (d.toNat : Int))
          have e2 := cell_in e1 j
          have e3 : (w12.setCell ⟨w11.heap.size, kk, none⟩ (.int .u8 (d.toNat : Int))).drew.cell? ⟨w11.heap.size, j, none⟩ = (w12.setCell ⟨w11.heap.size, kk, none⟩ (.int .u8 (d.toNat : Int))).cell? ⟨w11.heap.size, j, none⟩ := rfl
          rw [e3, e2]
          have hj' : j < y.data.toList.length := by simpa using hj
          by_cases hjk : kk = j
          · subst hjk
            rw [Array.getElem?_setIfInBounds_self_of_lt (HCn.out kk hkl)]; simp
          · rw [Array.getElem?_setIfInBounds_ne hjk, HCl.out j hj', List.getElem_set_ne hjk]
        have hback := run_convert_bytes_back (P := Tryd.prog) w14 22 9 5 ⟨w11.heap.size, 0, none⟩ (grownCap w11 y.size 0 5) (y.data.toList.set kk d) Tryd.underlying22 Tryd.underlying5 Tryd.underlying9 hc14
        rw [hl2] at hback
        have hnop : ¬ Opens (ByteArray.mk (y.data.toList.set kk d).toArray).data.toList := by
          intro ho
          have ho2 := ho.2
          rw [show (ByteArray.mk (y.data.toList.set kk d).toArray).data.toList = y.data.toList.set kk d by simp] at ho2
          have hy := HY.out
          have hkl2 : kk < (sealL x.data.toList).length := by rw [← hy]; exact hkl
          refine not_sealed x.data.toList (openL (y.data.toList.set kk d)) kk d HX.out (takeWhile_not 35 _) hkl2 ?_ ?_
          · intro e; apply hne; rw [e, HYK.out]; simp only [hy]
          · rw [← hy]; exact ho2.symm
        have E14 := HE11.out.step hb14
        have HV2 := Lib.hid ((implVerify_any ⟨(y.data.toList.set kk d).toArray⟩ w14 (by rw [size_mk, hl2]; omega) mx E14.mx E14.tab).2 hnop)
        have HE14 := Lib.hid E14
        have hxx : (x.toList == x.toList) = true := by simp
        clear E14 hnop hc14 hl2 hb14 hcell hfro hd hd2
        generalize ByteArray.mk (y.data.toList.set kk d).toArray = y2 at *
        rw [hw14]
        clear hw14
        go_wp2_with fail
        go_at_call 18
        refine HV2.out.mono ?_
        rintro e w15 ⟨rfl, hb⟩
        have hfin := (HE14.out.step hb).bel
        clear hb
        go_wp2_with fail
        go_ret
        exact ⟨rfl, hfin⟩

theorem walk (v0 : Value) (W : World) (S0 : CodeAt W v0) (hL : laidMetH Tryd.prog Rows.fnStringsRow.laid W) (hsh : W.ShapedOpen Tryd.prog) :
    Calls Tryd.prog 3 #[v0] W fun e w' => e = .returned (.bool true) ∧ Below W.heap.size W w' := by
  have htab := powTab (by rfl) hL
  obtain ⟨x0, y0, e0⟩ := errCell (nm := "strconv.ErrSyntax") (g := 0) (by kernel_rfl) (by kernel_rfl) (by rfl) (by rfl) hL
  obtain ⟨x1, y1, e1⟩ := errCell (nm := "strconv.ErrRange") (g := 1) (by kernel_rfl) (by kernel_rfl) (by rfl) (by rfl) hL
  obtain ⟨mx, hmx⟩ := cell_of_shapedOpen_int (g := 2) hsh (of_decide_eq_true (by kernel_rfl)) (t := 3) (zero := #[.int .i64 0]) (by kernel_rfl) rfl (by kernel_rfl) (by kernel_rfl) Tryd.underlying3
  obtain ⟨l, a, c, rfl, h1, h2, h3⟩ := S0
  exact core W a _ c x0 x1 y0 y1 mx ⟨Below.refl _ _, ⟨l, a, c, rfl, h1, h2, h3⟩, htab, e0 W (Below.refl _ _), e1 W (Below.refl _ _), hmx⟩ (by omega)
end Go.Proofs.YtmjopejjbdmniaaDoor.fnStrings

import Derived.Test.YtemejcbilhcebaaAnyNetP
import Derived.Test.YtemejcbilhcebaaCurOf
import Derived.Test.YtemejcbilhcebaaMk03
namespace Go.Proofs.Ytemejcbilhcebaa
open Go.RowKit
set_option linter.unusedVariables false
set_option linter.unusedSimpArgs false

def splL : List ByteArray := [⟨#[109, 105, 108, 108]⟩, ⟨#[]⟩, ⟨#[65]⟩, ⟨#[97, 98, 99, 100, 101, 102, 103, 104]⟩, ⟨#[97, 98, 99, 100, 101, 102, 103, 104, 105]⟩]
theorem splL_size : ∀ x ∈ splL, x.size ≤ 20 := by decide
def nmL4 : List ByteArray := [⟨#[114, 49]⟩, ⟨#[108, 49]⟩, ⟨#[]⟩, ⟨#[88]⟩]
theorem nmL4_size : ∀ x ∈ nmL4, x.size ≤ 20 := by decide

def nmX (k : Nat) : ByteArray := ⟨([120] ++ Lib.itoa (k : Int)).toArray⟩
theorem nmX_size (k : Nat) (h : k ≤ 6) : (nmX k).size ≤ 20 := by
  have h : k = 0 ∨ k = 1 ∨ k = 2 ∨ k = 3 ∨ k = 4 ∨ k = 5 ∨ k = 6 := by omega
  rcases h with rfl | rfl | rfl | rfl | rfl | rfl | rfl <;> simp [nmX, Lib.itoa, Lib.decDigits, ByteArray.size]

set_option maxRecDepth 100000 in
set_option maxHeartbeats 16000000 in
theorem anyNetwork_any (b n : Nat) (v : Value) (w : World) (hc : CurAt w b v n) (hv : CodeOff w b v) (hn : n ≤ 300000) :
    Calls Try.prog 41 #[.pointer (some ⟨b, 0, none⟩)] w fun e w' => (∃ (d : NetD) (a : Option Addr) (c : Nat) (oa : Option Addr) (oc u : Nat), e = .returned (.agg #[.slice a d.stops.length c, .slice oa d.lines.length oc]) ∧ (d.stops.length ≤ 8 ∧ ∀ s ∈ d.stops, s.size ≤ 20) ∧ d.lines.length ≤ 12 ∧ (∀ l ∈ d.lines, AnyLn l) ∧ NetL (w.heap.size + 1) u w' (.agg #[.slice a d.stops.length c, .slice oa d.lines.length oc]) d ∧ u ≤ w'.heap.size) ∧ CurPost w b (n + 700) v w' := by
  have hlt := curAt_lt hc
  have HV := Lib.hid hv
  have HP0 := Lib.hid (curPost_start hc hv (.cells #[.slice none 0 0, .slice none 0 0] 27))
  have H1 := Lib.hid (network_any b n v _ HP0.out.1 HP0.out.2.1 (by omega))
  have hz : (w.alloc (.cells #[.slice none 0 0, .slice none 0 0] 27)).cell? ⟨w.heap.size, 0, none⟩ = some (.slice none 0 0) ∧ (w.alloc (.cells #[.slice none 0 0, .slice none 0 0] 27)).cell? ⟨w.heap.size, 1, none⟩ = some (.slice none 0 0) ∧ ∀ o, (w.alloc (.cells #[.slice none 0 0, .slice none 0 0] 27)).frozen? ⟨w.heap.size, o, none⟩ = false := ⟨by go_simp, by go_simp, fun o => by go_simp⟩
  have HZ := Lib.hid hz
  clear hc hv hz
  go_enter Try.func41, Try.ntmps41
  go_wp2_with fail
  go_at_call 91
  refine H1.out.mono ?_
  rintro e w1 ⟨⟨d, gS, cS, oa, oc, B, rfl, hgd, hst, ⟨vs, hls0⟩, hB, hgS⟩, hp⟩
  have hls : OwnLsV B w1 (.slice oa d.lines.length oc) d.lines vs := hls0
  clear hls0
  have hz1 : w.heap.size < w1.heap.size := by have := hp.2.2.size; simp at this; omega
  have hB' : w.heap.size + 2 ≤ B := by simpa using hB
  have HGd := Lib.hid hgd
  have hd1 : 1 ≤ d.lines.length := hgd.1.2.2.1
  have hd5 : d.lines.length ≤ 5 := hgd.1.2.2.2
  obtain ⟨w2, hw2⟩ : ∃ w2 : World, w2 = w1.alloc (.cells #[.slice (some ⟨gS, 0, none⟩) d.stops.length cS, .slice oa d.lines.length oc] 27) := ⟨_, rfl⟩
  have hbb : Below w1.heap.size w1 w2 := by rw [hw2]; exact (Below.refl _ _).alloc (Nat.le_refl _) _
  have hsz2 : w2.heap.size = w1.heap.size + 1 := by rw [hw2]; simp
  have q0 : w2.cell? ⟨w1.heap.size, 0, none⟩ = some (.slice (some ⟨gS, 0, none⟩) d.stops.length cS) := by rw [hw2]; go_simp
  have q1 : w2.cell? ⟨w1.heap.size, 1, none⟩ = some (.slice oa d.lines.length oc) := by rw [hw2]; go_simp
  have qf : ∀ o, w2.frozen? ⟨w1.heap.size, o, none⟩ = false := fun o => by rw [hw2]; go_simp
  have HP2 := Lib.hid (curPost_later HV.out hlt (curPost_trans HP0.out hp) hbb)
  have zc : ∀ o u, (w.alloc (.cells #[.slice none 0 0, .slice none 0 0] 27)).cell? ⟨w.heap.size, o, none⟩ = some u → w2.cell? ⟨w.heap.size, o, none⟩ = some u := fun o u hu => bkeep hbb (hp.2.2.cell hu (by simp; omega))
  have HZ2 : Hid (w2.cell? ⟨w.heap.size, 0, none⟩ = some (.slice none 0 0) ∧ w2.cell? ⟨w.heap.size, 1, none⟩ = some (.slice none 0 0) ∧ ∀ o, w2.frozen? ⟨w.heap.size, o, none⟩ = false) := ⟨zc _ _ HZ.out.1, zc _ _ HZ.out.2.1, fun o => by
    rw [World.frozen?_of_block (a := ⟨w.heap.size, o, none⟩) (hbb.block w.heap.size (by omega)), World.frozen?_of_block (a := ⟨w.heap.size, o, none⟩) (hp.2.2.block w.heap.size (by simp) (by simp; omega))]
    exact HZ.out.2.2 o⟩
  have hst2 := own_later hst hbb
  have hls2 := hls.later hbb
  have hfl : ∀ q, w1.heap.size ≤ q → (Value.slice (some ⟨gS, 0, none⟩) d.stops.length cS).ownBlock ≠ some q ∧ (Value.slice oa d.lines.length oc).ownBlock ≠ some q ∧ ∀ p ∈ vs, p.1.ownBlock ≠ some q ∧ p.2.ownBlock ≠ some q := fun q hq => ⟨fun e => by have := (hst.lt q e).2; omega, (hls.far q hq).1, (hls.far q hq).2⟩
  have HFL := Lib.hid hfl
  have HST := Lib.hid hst2
  have HLS := Lib.hid hls2
  have HW2 := Lib.hid hw2
  have H2 := Lib.hid (pick_any b (n + 200) v (d.lines.length : Int) w2 HP2.out.1 HP2.out.2.1 (by omega) (by omega))
  clear hp H1 HP0 HZ hw2 hbb hst hls hst2 hls2 hB hgd zc hfl
  go_wp2_with fail
  rw [← HW2.out]
  go_at_call 42
  refine H2.out.mono ?_
  rintro e w3 ⟨⟨i0, rfl, hi00, hi01⟩, hp⟩
  have hi02 := hi01 (by omega)
  obtain ⟨i, rfl⟩ := Int.eq_ofNat_of_zero_le hi00
  have hi : i < d.lines.length := by omega
  have hne : ∀ q, w.heap.size ≤ q → q ≠ b := fun q hq => by omega
  have kc : ∀ q o u, w.heap.size ≤ q → w2.cell? ⟨q, o, none⟩ = some u → w3.cell? ⟨q, o, none⟩ = some u := fun q o u hq hu => hp.2.2.cell (a := ⟨q, o, none⟩) hu (by simp; omega)
  have kf : ∀ q, w.heap.size ≤ q → q < w2.heap.size → (∀ o, w2.frozen? ⟨q, o, none⟩ = false) → ∀ o, w3.frozen? ⟨q, o, none⟩ = false := fun q hq hl hu o => by rw [World.frozen?_of_block (a := ⟨q, o, none⟩) (hp.2.2.block q hl (by simp; omega))]; exact hu o
  have hsz3 := hp.2.2.size
  have p0 := kc _ _ _ (by omega) q0
  have p1 := kc _ _ _ (by omega) q1
  have HPf := Lib.hid (kf _ (by omega) (by omega) qf)
  have HZ3 : Hid (w3.cell? ⟨w.heap.size, 0, none⟩ = some (.slice none 0 0) ∧ w3.cell? ⟨w.heap.size, 1, none⟩ = some (.slice none 0 0) ∧ ∀ o, w3.frozen? ⟨w.heap.size, o, none⟩ = false) := ⟨kc _ _ _ (by omega) HZ2.out.1, kc _ _ _ (by omega) HZ2.out.2.1, kf _ (by omega) (by omega) HZ2.out.2.2⟩
  have hst3 := own_cur HST.out (by simp; omega) hp
  have hls3 := HLS.out.keep (fun q h1 h2 => hp.2.2.block q h2 (by simp; omega))
  have HP3 := Lib.hid (curPost_trans HP2.out hp)
  obtain ⟨gl, rfl⟩ : ∃ gl, oa = some ⟨gl, 0, none⟩ := by
    rcases hls3.2.1.2 with ⟨hv, h0⟩ | ⟨g, cap, cur, hv, _⟩
    · omega
    · simp at hv; exact ⟨g, hv.1⟩
  have hvl : i < vs.length := by have := hls3.1; omega
  obtain ⟨e0, e1, e2⟩ := lnC_get d.lines vs i hi hvl
  have k0 := hls3.2.1.cellAt (i * 3) (by omega)
  have k1 := hls3.2.1.cellAt (i * 3 + 1) (by omega)
  have k2 := hls3.2.1.cellAt (i * 3 + 2) (by omega)
  rw [e0] at k0
  rw [e1] at k1
  rw [e2] at k2
  have hrw := (hls3.2.2 i hi hvl)
  have hgl := HGd.out.2.2.2.1 _ (List.getElem_mem hi)
  obtain ⟨x, hxe⟩ : ∃ x, d.lines[i] = x := ⟨_, rfl⟩
  obtain ⟨sx, hsx⟩ : ∃ sx, vs[i].1 = sx := ⟨_, rfl⟩
  obtain ⟨rx, hrx⟩ : ∃ rx, vs[i].2 = rx := ⟨_, rfl⟩
  have hpm : (sx, rx) ∈ vs := by rw [← hsx, ← hrx]; exact List.getElem_mem hvl
  rw [hxe] at k0 hrw hgl
  rw [hsx] at k1 hrw
  rw [hrx] at k2 hrw
  obtain ⟨sa, sc, hsa⟩ := own_shape hrw.1.1
  obtain ⟨ra, rc, hra⟩ := own_shape hrw.1.2
  have hXl : 2 ≤ x.stops.length ∧ x.stops.length ≤ 6 ∧ x.runs.length + 1 = x.stops.length := hgl.2.1
  obtain ⟨sl, hsl⟩ : ∃ sl, x.stops.length = sl := ⟨_, rfl⟩
  obtain ⟨rl, hrl⟩ : ∃ rl, x.runs.length = rl := ⟨_, rfl⟩
  rw [hsl] at hsa hXl
  rw [hrl] at hra hXl
  subst hsa hra
  obtain ⟨w4, hw4⟩ : ∃ w4 : World, w4 = w3.alloc (.cells #[.string x.name, .slice sa sl sc, .slice ra rl rc] 36) := ⟨_, rfl⟩
  have hb4 : Below w3.heap.size w3 w4 := by rw [hw4]; exact (Below.refl _ _).alloc (Nat.le_refl _) _
  have hsz4 : w4.heap.size = w3.heap.size + 1 := by rw [hw4]; simp
  have hN8 : d.stops.length ≤ 8 := HGd.out.1.2.1
  have hanyL : ∀ l ∈ d.lines, AnyLn l := fun l hl => anyLn_good (HGd.out.2.2.2.1 l hl).2 (by have := (HGd.out.2.2.2.1 l hl).1.2.1; omega) hN8
  have HA4 : Hid (AnSt w b (n + 202) v w1.heap.size w3.heap.size B (.slice (some ⟨gS, 0, none⟩) d.stops.length cS) (.slice (some ⟨gl, 0, none⟩) d.lines.length oc) (.slice sa sl sc) (.slice ra rl rc) d.stops d.lines vs x w4) := by
    show AnSt _ _ _ _ _ _ _ _ _ _ _ _ _ _ _ _
    have fz : ∀ q, q < w3.heap.size → (∀ o, w3.frozen? ⟨q, o, none⟩ = false) → ∀ o, w4.frozen? ⟨q, o, none⟩ = false := fun q hl hu o => by rw [World.frozen?_of_block (a := ⟨q, o, none⟩) (hb4.block q hl)]; exact hu o
    refine ⟨curPost_later HV.out hlt HP3.out hb4, ⟨bkeep hb4 HZ3.out.1, bkeep hb4 HZ3.out.2.1, by omega, fz _ (by omega) HZ3.out.2.2⟩, bkeep hb4 p0, bkeep hb4 p1, fz _ (by omega) HPf.out,
      by rw [hw4]; go_simp, by rw [hw4]; go_simp, by rw [hw4]; go_simp, fun o => by rw [hw4]; go_simp, own_base (own_later hst3 hb4) (by simp), hls3.later hb4, own_later hrw.1.1 hb4, own_later hrw.1.2 hb4, hrw.2, ⟨by omega, by omega, by omega, by omega⟩, fun g hg => by simp [Value.ownBlock] at hg; omega, fun q hq => ?_, ⟨hN8, fun s hs => by have := (HGd.out.2.1 s hs).2.1; omega⟩, by omega, hanyL, by rw [← hxe]; exact hanyL _ (List.getElem_mem hi)⟩
    obtain ⟨f1, f2, f3⟩ := HFL.out q (by rcases hq with rfl | rfl <;> omega)
    exact ⟨f1, f2, (f3 _ hpm).1, (f3 _ hpm).2, f3⟩
  have HW4 := Lib.hid hw4
  have hD2 : 2 ≤ d.stops.length := HGd.out.1.1
  have H4 := Lib.hid (pick_any b (n + 202) v 24 w4 HA4.out.cur.1 HA4.out.cur.2.1 (by omega) (by omega))
  clear hp H2 hi00 hi01 hi02 kc kf q0 q1 qf HZ2 HPf HZ3 hst3 hls3 HP2 HP3 HST HLS HFL e0 e1 e2 hrw hgl hw4 hb4 hanyL hpm hsx hrx hxe
  go_wp2_with fail
  rw [← HW4.out]
  go_at_call 42
  refine H4.out.mono ?_
  rintro e w5 ⟨⟨r, rfl, hr0, hr1⟩, hp⟩
  have hr2 := hr1 (by omega)
  have HA5 := Lib.hid (HA4.out.cur' hlt hp)
  obtain ⟨nb, hnb⟩ : ∃ nb, w1.heap.size = nb := ⟨_, rfl⟩
  obtain ⟨xb, hxb⟩ : ∃ xb, w3.heap.size = xb := ⟨_, rfl⟩
  obtain ⟨L, hL⟩ : ∃ L, d.lines.length = L := ⟨_, rfl⟩
  obtain ⟨S, hS⟩ : ∃ S, d.stops.length = S := ⟨_, rfl⟩
  rw [hL] at hd1 hd5 hi
  rw [hS] at hD2 hN8
  rw [hnb, hxb, hL, hS] at HA5
  rw [hnb, hxb]
  have hnx : nb ≠ xb := HA5.out.hy.2.2.2
  have hgn : gl ≠ nb := fun e => (HA5.out.far nb (.inl rfl)).2.1 (by rw [← e]; rfl)
  have hgx : gl ≠ xb := fun e => (HA5.out.far xb (.inr rfl)).2.1 (by rw [← e]; rfl)
  have hgb := HA5.out.own.2.1.lt gl rfl
  clear hp H4 hr1 HA4 HW4 hsz2 hsz3 hsz4 hne HGd hvl p0 p1 k0 k1 k2 hz1 hnb hxb
  have hcases : r = 0 ∨ r = 1 ∨ r = 2 ∨ r = 3 ∨ r = 4 ∨ r = 5 ∨ r = 6 ∨ 7 ≤ r := by omega
  rcases hcases with rfl | rfl | rfl | rfl | rfl | rfl | rfl | h7
  · have hS0 : 0 < S := by omega
    have c0' := HA5.out.c0
    have hlt5 : b < w5.drew.heap.size := by have := HA5.out.z.2.2.1; simp; omega
    go_wp2_with fail
    refine wp_region_until 6 (S := (fun w' => w'.cell? ⟨nb, 0, none⟩ = some (.slice (some ⟨gS, 0, none⟩) S cS))) (by kernel_rfl) ?_ (fun hHeld => ?_)
    · exact c0'
    refine wpAnyU_take (i := 0) (v := ?_) (by simp only [List.getElem?_toArray, List.getElem?_cons_zero]; rfl) (by kernel_rfl) (by kernel_rfl) (by kernel_rfl) (by kernel_rfl) (by kernel_rfl) (by exact fun _ _ _ h => h) (Or.inl ⟨by rfl, ?_⟩) (by assumption) ?_
    rotate_left
    · intro w' hSw; go_simp; try with_reducible rfl
    try simp only [Act.put, List.setIfInBounds_toArray, List.set_cons_zero, List.set_cons_succ]
    refine wpAnyU_take (i := 1) (v := ?_) (by simp only [List.getElem?_toArray, List.getElem?_cons_succ, List.getElem?_cons_zero]; rfl) (by kernel_rfl) (by kernel_rfl) (by kernel_rfl) (by kernel_rfl) (by kernel_rfl) (by exact fun _ _ _ h => h) (Or.inl ⟨by rfl, ?_⟩) (by assumption) ?_
    rotate_left
    · intro w' hSw; go_simp; try with_reducible rfl
    try simp only [Act.put, List.setIfInBounds_toArray, List.set_cons_zero, List.set_cons_succ]
    refine wpAnyU_take (i := 2) (v := ?_) (by simp only [List.getElem?_toArray, List.getElem?_cons_succ, List.getElem?_cons_zero]; rfl) (by kernel_rfl) (by kernel_rfl) (by kernel_rfl) (by kernel_rfl) (by kernel_rfl) (by exact fun _ _ _ h => h) (Or.inl ⟨by rfl, ?_⟩) (by assumption) ?_
    rotate_left
    · intro w' hSw; go_simp; try with_reducible rfl
    try simp only [Act.put, List.setIfInBounds_toArray, List.set_cons_zero, List.set_cons_succ]
    refine wpAnyU_ready (rs := [3]) (by kernel_rfl) (by simp) ?_
    refine AllReadyU.cons (by simp only [List.getElem?_toArray, List.getElem?_cons_succ, List.getElem?_cons_zero]; rfl) (fun K hK => ?_) AllReadyU.nil
    go_simp
    have HAd := Lib.hid HA5.out.drew
    have HAa := Lib.hid (HAd.out.alloc (.cells #[.string ⟨#[109, 105, 108, 108]⟩, .string ⟨#[]⟩, .string ⟨#[65]⟩, .string ⟨#[97, 98, 99, 100, 101, 102, 103, 104]⟩, .string ⟨#[97, 98, 99, 100, 101, 102, 103, 104, 105]⟩] 9))
    have hSa : (w5.drew.alloc (.cells #[.string ⟨#[109, 105, 108, 108]⟩, .string ⟨#[]⟩, .string ⟨#[65]⟩, .string ⟨#[97, 98, 99, 100, 101, 102, 103, 104]⟩, .string ⟨#[97, 98, 99, 100, 101, 102, 103, 104, 105]⟩] 9)).cell? ⟨nb, 0, none⟩ = some (.slice (some ⟨gS, 0, none⟩) S cS) := HAa.out.c0
    refine hK.out _ _ hSa (fun hH3 => ?_)
    clear hK K
    try simp only [Act.put, List.setIfInBounds_toArray, List.set_cons_zero, List.set_cons_succ]
    refine wpAnyU_ready (rs := [4]) (by kernel_rfl) (by simp) ?_
    refine AllReadyU.cons (by simp only [List.getElem?_toArray, List.getElem?_cons_succ, List.getElem?_cons_zero]; rfl) (fun K hK => ?_) AllReadyU.nil
    go_simp
    go_at_call 43
    refine (of_any b (n + 202 + 2) v (.slice (some ⟨w5.heap.size, 0, none⟩) 5 5) splL _ HAa.out.cur.1 HAa.out.cur.2.1 (by omega) (listOff_built w5.drew b (splL.map Value.string) 9 hlt5 (by decide)) (by decide) (by decide)).mono ?_
    rintro e w6 ⟨⟨t, ht, rfl⟩, hp⟩
    have hts := splL_size t ht
    have HA6 := Lib.hid (HAa.out.cur' hlt hp)
    have hS6 : w6.cell? ⟨nb, 0, none⟩ = some (.slice (some ⟨gS, 0, none⟩) S cS) := HA6.out.c0
    clear hp ht
    have HA6' : Hid (AnSt w b (n + 202 + 2 + 2) v nb xb B (.slice (some ⟨gS, 0, none⟩) d.stops.length cS) (.slice (some ⟨gl, 0, none⟩) L oc) (.slice sa sl sc) (.slice ra rl rc) d.stops d.lines vs x w6) := by rw [hS]; exact HA6
    obtain ⟨u0, hu0⟩ : ∃ u, (strs d.stops)[0]? = some u := ⟨_, List.getElem?_eq_getElem (by rw [strs_len]; omega)⟩
    have y0 := HA6'.out.st.cellAt 0 (by omega)
    rw [hu0] at y0
    have yf := HA6'.out.st.frozenAt
    go_wp2_with fail
    refine hK.out _ _ hS6 (fun hH4 => ?_)
    clear hK K
    try simp only [Act.put, List.setIfInBounds_toArray, List.set_cons_zero, List.set_cons_succ]
    refine wpAnyU_take (i := 5) (v := ?_) (by simp only [List.getElem?_toArray, List.getElem?_cons_succ, List.getElem?_cons_zero]; rfl) (by kernel_rfl) (by kernel_rfl) (by kernel_rfl) (by kernel_rfl) (by kernel_rfl) (by exact fun _ _ _ h => h) (Or.inl ⟨by rfl, ?_⟩) (by assumption) ?_
    rotate_left
    · intro w' hSw; go_simp; try with_reducible rfl
    try simp only [Act.put, List.setIfInBounds_toArray, List.set_cons_zero, List.set_cons_succ]
    refine wpAnyU_ready (rs := [6]) (by kernel_rfl) (by simp) ?_
    refine AllReadyU.last (by simp only [List.getElem?_toArray, List.getElem?_cons_succ, List.getElem?_cons_zero]; rfl) (by kernel_rfl) (fun K hK => ?_)
    go_simp
    refine hK.out _ _ ?_
    clear hK K
    try simp only [Act.put, List.setIfInBounds_toArray, List.set_cons_zero, List.set_cons_succ]
    refine wpAnyU_done (by kernel_rfl) ?_ _
    have HAs := Lib.hid (HA6'.out.stop HV.out hlt 0 t (by omega))
    rw [hS] at HAs
    clear hH3 hH4 hSa hS6 hHeld y0 yf hu0 HA6 HA6' HAa HAd HA5
    go_upto_region 24 with fail
    obtain ⟨we, hwe⟩ : ∃ we : World, we = w6.setCell ⟨gS, 0, none⟩ (.string t) := ⟨_, rfl⟩
    rw [← hwe] at HAs ⊢
    clear hwe
    obtain ⟨sse, hsse⟩ : ∃ sse, d.stops.set 0 t = sse := ⟨_, rfl⟩
    have hSe : sse.length = S := by rw [← hsse, List.length_set]; exact hS
    rw [hsse] at HAs
    obtain ⟨lse, hlse⟩ : ∃ lse, d.lines = lse := ⟨_, rfl⟩
    obtain ⟨xe, rfl⟩ : ∃ xe, xe = x := ⟨_, rfl⟩
    rw [hlse] at HAs
    have hLe : lse.length = L := by rw [← hlse]; exact hL
    have HAe := HAs
    clear HAs
    have hie : i < lse.length := by omega
    have c0 := HAe.out.c0
    have c1 := HAe.out.c1
    have x0 := HAe.out.x0
    have x1 := HAe.out.x1
    have x2 := HAe.out.x2
    have hve : i < vs.length := by have := HAe.out.own.1; omega
    obtain ⟨e0, e1, e2⟩ := lnC_get lse vs i hie hve
    have HAe' : Hid (AnSt w b (n + 202 + 2 + 2) v nb xb B (.slice (some ⟨gS, 0, none⟩) S cS) (.slice (some ⟨gl, 0, none⟩) lse.length oc) (.slice sa sl sc) (.slice ra rl rc) sse lse vs xe we) := by rw [hLe]; exact HAe
    have y0 := HAe'.out.own.2.1.cellAt (i * 3) (by omega)
    have y1 := HAe'.out.own.2.1.cellAt (i * 3 + 1) (by omega)
    have y2 := HAe'.out.own.2.1.cellAt (i * 3 + 2) (by omega)
    have yf := HAe'.out.own.2.1.frozenAt
    rw [e0] at y0
    rw [e1] at y1
    rw [e2] at y2
    have HPe := Lib.hid (HAe'.out.put HV.out hlt i hie)
    rw [hLe] at HPe
    clear e0 e1 e2 HAe HAe'
    go_upto_region 25 with fail
    obtain ⟨wf, hwf⟩ : ∃ wf : World, wf = ((we.setCell ⟨gl, i * 3, none⟩ (.string xe.name)).setCell ⟨gl, i * 3 + 1, none⟩ (.slice sa sl sc)).setCell ⟨gl, i * 3 + 2, none⟩ (.slice ra rl rc) := ⟨_, rfl⟩
    rw [← hwf] at HPe ⊢
    clear hwf c0 c1 x0 x1 x2 y0 y1 y2 yf
    obtain ⟨lsf, hlsf⟩ : ∃ lsf, lse.set i xe = lsf := ⟨_, rfl⟩
    have hLf : lsf.length = L := by rw [← hlsf]; simp [hLe]
    rw [hlsf] at HPe
    obtain ⟨ssf, rfl⟩ : ∃ ssf, ssf = sse := ⟨_, rfl⟩
    have hSf := hSe
    have HAf := HPe
    obtain ⟨oaf, hoaf⟩ : ∃ oaf : Option Addr, some ⟨gl, 0, none⟩ = oaf := ⟨_, rfl⟩
    obtain ⟨ocf, hocf⟩ : ∃ ocf, oc = ocf := ⟨_, rfl⟩
    obtain ⟨Lf, rfl⟩ : ∃ Lf, Lf = L := ⟨_, rfl⟩
    rw [hoaf, hocf] at HAf
    have HF := Lib.hid (HAf.out.fin HV.out hlt)
    have g0 := HAf.out.c0
    have g1 := HAf.out.c1
    obtain ⟨z0, z1, zl, zf⟩ := HAf.out.z
    have hok := HAf.out.ok
    have hnw := HAf.out.hy
    have hcm : n + 202 + 2 + 2 ≤ n + 700 := by omega
    go_wp2_with fail
    have hE : ∃ (d : NetD) (a : Option Addr) (c : Nat) (oa : Option Addr) (oc u : Nat), Ending.returned (Value.agg #[.slice (some ⟨gS, 0, none⟩) S cS, .slice oaf Lf ocf]) = .returned (.agg #[.slice a d.stops.length c, .slice oa d.lines.length oc]) ∧ (d.stops.length ≤ 8 ∧ ∀ s ∈ d.stops, s.size ≤ 20) ∧ d.lines.length ≤ 12 ∧ (∀ l ∈ d.lines, AnyLn l) ∧ NetL (w.heap.size + 1) u ((wf.setCell ⟨w.heap.size, 0, none⟩ (.slice (some ⟨gS, 0, none⟩) S cS)).setCell ⟨w.heap.size, 1, none⟩ (.slice oaf Lf ocf)) (.agg #[.slice a d.stops.length c, .slice oa d.lines.length oc]) d ∧ u ≤ ((wf.setCell ⟨w.heap.size, 0, none⟩ (.slice (some ⟨gS, 0, none⟩) S cS)).setCell ⟨w.heap.size, 1, none⟩ (.slice oaf Lf ocf)).heap.size := ⟨⟨ssf, lsf⟩, some ⟨gS, 0, none⟩, cS, oaf, ocf, wf.heap.size, (by dsimp only; rw [hSf, hLf]), hok.1, hok.2.1, hok.2.2.1, (by dsimp only; rw [hSf, hLf]; exact HF.out.1), by simp [World.setCell]⟩
    exact bodyPost_ret (v := .agg #[.slice (some ⟨gS, 0, none⟩) S cS, .slice oaf Lf ocf]) (by simp only [results, Try.results41]; go_simp) rfl ⟨by first | exact hE | simpa only [exists_and_left, exists_and_right] using hE, curPost_mono HF.out.2.1 hcm⟩
  · have hlt5 : b < w5.heap.size := by have := HA5.out.z.2.2.1; omega
    have HAa := Lib.hid (HA5.out.alloc (.cells (nmL4.map Value.string).toArray 9))
    have H6 := Lib.hid (of_any b (n + 202 + 2) v (.slice (some ⟨w5.heap.size, 0, none⟩) 4 4) nmL4 _ HAa.out.cur.1 HAa.out.cur.2.1 (by omega) (listOff_built w5 b (nmL4.map Value.string) 9 hlt5 (by decide)) (by decide) (by decide))
    go_wp2_with fail
    go_at_call 43
    refine H6.out.mono ?_
    rintro e w6 ⟨⟨t, ht, rfl⟩, hp⟩
    have hts := nmL4_size t ht
    have HA6 := Lib.hid (HAa.out.cur' hlt hp)
    clear hp ht H6 HAa
    have x0 := HA6.out.x0
    have xf := HA6.out.xf
    have HAs := Lib.hid (HA6.out.name HV.out hlt t (by omega))
    go_upto_region 24 with fail
    obtain ⟨we, hwe⟩ : ∃ we : World, we = w6.setCell ⟨xb, 0, none⟩ (.string t) := ⟨_, rfl⟩
    rw [← hwe] at HAs ⊢
    clear hwe x0 xf HA6 HA5
    obtain ⟨lse, hlse⟩ : ∃ lse, d.lines = lse := ⟨_, rfl⟩
    obtain ⟨sse, hsse⟩ : ∃ sse, d.stops = sse := ⟨_, rfl⟩
    obtain ⟨xe, hxe⟩ : ∃ xe : LineD, ⟨t, x.stops, x.runs⟩ = xe := ⟨_, rfl⟩
    rw [hlse, hsse, hxe] at HAs
    have hLe : lse.length = L := by rw [← hlse]; exact hL
    have hSe : sse.length = S := by rw [← hsse]; exact hS
    have HAe := HAs
    clear HAs
    have hie : i < lse.length := by omega
    have c0 := HAe.out.c0
    have c1 := HAe.out.c1
    have x0 := HAe.out.x0
    have x1 := HAe.out.x1
    have x2 := HAe.out.x2
    have hve : i < vs.length := by have := HAe.out.own.1; omega
    obtain ⟨e0, e1, e2⟩ := lnC_get lse vs i hie hve
    have HAe' : Hid (AnSt w b (n + 202 + 2 + 2) v nb xb B (.slice (some ⟨gS, 0, none⟩) S cS) (.slice (some ⟨gl, 0, none⟩) lse.length oc) (.slice sa sl sc) (.slice ra rl rc) sse lse vs xe we) := by rw [hLe]; exact HAe
    have y0 := HAe'.out.own.2.1.cellAt (i * 3) (by omega)
    have y1 := HAe'.out.own.2.1.cellAt (i * 3 + 1) (by omega)
    have y2 := HAe'.out.own.2.1.cellAt (i * 3 + 2) (by omega)
    have yf := HAe'.out.own.2.1.frozenAt
    rw [e0] at y0
    rw [e1] at y1
    rw [e2] at y2
    have HPe := Lib.hid (HAe'.out.put HV.out hlt i hie)
    rw [hLe] at HPe
    clear e0 e1 e2 HAe HAe'
    go_upto_region 25 with fail
    obtain ⟨wf, hwf⟩ : ∃ wf : World, wf = ((we.setCell ⟨gl, i * 3, none⟩ (.string xe.name)).setCell ⟨gl, i * 3 + 1, none⟩ (.slice sa sl sc)).setCell ⟨gl, i * 3 + 2, none⟩ (.slice ra rl rc) := ⟨_, rfl⟩
    rw [← hwf] at HPe ⊢
    clear hwf c0 c1 x0 x1 x2 y0 y1 y2 yf
    obtain ⟨lsf, hlsf⟩ : ∃ lsf, lse.set i xe = lsf := ⟨_, rfl⟩
    have hLf : lsf.length = L := by rw [← hlsf]; simp [hLe]
    rw [hlsf] at HPe
    obtain ⟨ssf, rfl⟩ : ∃ ssf, ssf = sse := ⟨_, rfl⟩
    have hSf := hSe
    have HAf := HPe
    obtain ⟨oaf, hoaf⟩ : ∃ oaf : Option Addr, some ⟨gl, 0, none⟩ = oaf := ⟨_, rfl⟩
    obtain ⟨ocf, hocf⟩ : ∃ ocf, oc = ocf := ⟨_, rfl⟩
    obtain ⟨Lf, rfl⟩ : ∃ Lf, Lf = L := ⟨_, rfl⟩
    rw [hoaf, hocf] at HAf
    have HF := Lib.hid (HAf.out.fin HV.out hlt)
    have g0 := HAf.out.c0
    have g1 := HAf.out.c1
    obtain ⟨z0, z1, zl, zf⟩ := HAf.out.z
    have hok := HAf.out.ok
    have hnw := HAf.out.hy
    have hcm : n + 202 + 2 + 2 ≤ n + 700 := by omega
    go_wp2_with fail
    have hE : ∃ (d : NetD) (a : Option Addr) (c : Nat) (oa : Option Addr) (oc u : Nat), Ending.returned (Value.agg #[.slice (some ⟨gS, 0, none⟩) S cS, .slice oaf Lf ocf]) = .returned (.agg #[.slice a d.stops.length c, .slice oa d.lines.length oc]) ∧ (d.stops.length ≤ 8 ∧ ∀ s ∈ d.stops, s.size ≤ 20) ∧ d.lines.length ≤ 12 ∧ (∀ l ∈ d.lines, AnyLn l) ∧ NetL (w.heap.size + 1) u ((wf.setCell ⟨w.heap.size, 0, none⟩ (.slice (some ⟨gS, 0, none⟩) S cS)).setCell ⟨w.heap.size, 1, none⟩ (.slice oaf Lf ocf)) (.agg #[.slice a d.stops.length c, .slice oa d.lines.length oc]) d ∧ u ≤ ((wf.setCell ⟨w.heap.size, 0, none⟩ (.slice (some ⟨gS, 0, none⟩) S cS)).setCell ⟨w.heap.size, 1, none⟩ (.slice oaf Lf ocf)).heap.size := ⟨⟨ssf, lsf⟩, some ⟨gS, 0, none⟩, cS, oaf, ocf, wf.heap.size, (by dsimp only; rw [hSf, hLf]), hok.1, hok.2.1, hok.2.2.1, (by dsimp only; rw [hSf, hLf]; exact HF.out.1), by simp [World.setCell]⟩
    exact bodyPost_ret (v := .agg #[.slice (some ⟨gS, 0, none⟩) S cS, .slice oaf Lf ocf]) (by simp only [results, Try.results41]; go_simp) rfl ⟨by first | exact hE | simpa only [exists_and_left, exists_and_right] using hE, curPost_mono HF.out.2.1 hcm⟩
  · obtain ⟨q, rfl⟩ : ∃ q, sa = some ⟨q, 0, none⟩ := by
      rcases HA5.out.xs.2 with ⟨hv, h0⟩ | ⟨g, cap, cur, hv, _⟩
      · omega
      · simp at hv; exact ⟨g, hv.1⟩
    have x1' := HA5.out.x1
    have hsl0 : 0 < sl := by omega
    go_wp2_with fail
    refine wp_region_until 11 (S := (fun w' => w'.cell? ⟨xb, 1, none⟩ = some (.slice (some ⟨q, 0, none⟩) sl sc))) (by kernel_rfl) ?_ (fun hHeld => ?_)
    · exact x1'
    refine wpAnyU_take (i := 0) (v := ?_) (by simp only [List.getElem?_toArray, List.getElem?_cons_zero]; rfl) (by kernel_rfl) (by kernel_rfl) (by kernel_rfl) (by kernel_rfl) (by kernel_rfl) (by exact fun _ _ _ h => h) (Or.inl ⟨by rfl, ?_⟩) (by assumption) ?_
    rotate_left
    · intro w' hSw; go_simp; try with_reducible rfl
    try simp only [Act.put, List.setIfInBounds_toArray, List.set_cons_zero, List.set_cons_succ]
    refine wpAnyU_take (i := 1) (v := ?_) (by simp only [List.getElem?_toArray, List.getElem?_cons_succ, List.getElem?_cons_zero]; rfl) (by kernel_rfl) (by kernel_rfl) (by kernel_rfl) (by kernel_rfl) (by kernel_rfl) (by exact fun _ _ _ h => h) (Or.inl ⟨by rfl, ?_⟩) (by assumption) ?_
    rotate_left
    · intro w' hSw; go_simp; try with_reducible rfl
    try simp only [Act.put, List.setIfInBounds_toArray, List.set_cons_zero, List.set_cons_succ]
    refine wpAnyU_take (i := 2) (v := ?_) (by simp only [List.getElem?_toArray, List.getElem?_cons_succ, List.getElem?_cons_zero]; rfl) (by kernel_rfl) (by kernel_rfl) (by kernel_rfl) (by kernel_rfl) (by kernel_rfl) (by exact fun _ _ _ h => h) (Or.inl ⟨by rfl, ?_⟩) (by assumption) ?_
    rotate_left
    · intro w' hSw; go_simp; try with_reducible rfl
    try simp only [Act.put, List.setIfInBounds_toArray, List.set_cons_zero, List.set_cons_succ]
    refine wpAnyU_take (i := 3) (v := ?_) (by simp only [List.getElem?_toArray, List.getElem?_cons_succ, List.getElem?_cons_zero]; rfl) (by kernel_rfl) (by kernel_rfl) (by kernel_rfl) (by kernel_rfl) (by kernel_rfl) (by exact fun _ _ _ h => h) (Or.inl ⟨by rfl, ?_⟩) (by assumption) ?_
    rotate_left
    · intro w' hSw; go_simp; try with_reducible rfl
    try simp only [Act.put, List.setIfInBounds_toArray, List.set_cons_zero, List.set_cons_succ]
    refine wpAnyU_take (i := 4) (v := ?_) (by simp only [List.getElem?_toArray, List.getElem?_cons_succ, List.getElem?_cons_zero]; rfl) (by kernel_rfl) (by kernel_rfl) (by kernel_rfl) (by kernel_rfl) (by kernel_rfl) (by exact fun _ _ _ h => h) (Or.inl ⟨by rfl, ?_⟩) (by assumption) ?_
    rotate_left
    · intro w' hSw; go_simp; try with_reducible rfl
    try simp only [Act.put, List.setIfInBounds_toArray, List.set_cons_zero, List.set_cons_succ]
    refine wpAnyU_take (i := 5) (v := ?_) (by simp only [List.getElem?_toArray, List.getElem?_cons_succ, List.getElem?_cons_zero]; rfl) (by kernel_rfl) (by kernel_rfl) (by kernel_rfl) (by kernel_rfl) (by kernel_rfl) (by exact fun _ _ _ h => h) (Or.inl ⟨by rfl, ?_⟩) (by assumption) ?_
    rotate_left
    · intro w' hSw; go_simp; try with_reducible rfl
    try simp only [Act.put, List.setIfInBounds_toArray, List.set_cons_zero, List.set_cons_succ]
    refine wpAnyU_take (i := 7) (v := ?_) (by simp only [List.getElem?_toArray, List.getElem?_cons_succ, List.getElem?_cons_zero]; rfl) (by kernel_rfl) (by kernel_rfl) (by kernel_rfl) (by kernel_rfl) (by kernel_rfl) (by exact fun _ _ _ h => h) (Or.inl ⟨by rfl, ?_⟩) (by assumption) ?_
    rotate_left
    · intro w' hSw; go_simp; try with_reducible rfl
    try simp only [Act.put, List.setIfInBounds_toArray, List.set_cons_zero, List.set_cons_succ]
    refine wpAnyU_ready (rs := [6]) (by kernel_rfl) (by simp) ?_
    refine AllReadyU.cons (by simp only [List.getElem?_toArray, List.getElem?_cons_succ, List.getElem?_cons_zero]; rfl) (fun K hK => ?_) AllReadyU.nil
    go_simp
    have HAd := Lib.hid HA5.out.drew
    go_at_call 42
    refine (pick_any b (n + 202 + 2) v (sl : Int) _ HAd.out.cur.1 HAd.out.cur.2.1 (by omega) (by omega)).mono ?_
    rintro e w6 ⟨⟨k0, rfl, hk00, hk01⟩, hp⟩
    have hk02 := hk01 (by omega)
    obtain ⟨k, rfl⟩ := Int.eq_ofNat_of_zero_le hk00
    have HA6 := Lib.hid (HAd.out.cur' hlt hp)
    have hS6 : w6.cell? ⟨xb, 1, none⟩ = some (.slice (some ⟨q, 0, none⟩) sl sc) := HA6.out.x1
    clear hp hk01
    go_wp2_with fail
    refine hK.out _ _ hS6 (fun hH6 => ?_)
    clear hK K
    try simp only [Act.put, List.setIfInBounds_toArray, List.set_cons_zero, List.set_cons_succ]
    refine wpAnyU_ready (rs := [8]) (by kernel_rfl) (by simp) ?_
    refine AllReadyU.cons (by simp only [List.getElem?_toArray, List.getElem?_cons_succ, List.getElem?_cons_zero]; rfl) (fun K hK => ?_) AllReadyU.nil
    go_simp
    go_at_call 42
    refine (pick_any b (n + 202 + 2 + 2) v 10 _ HA6.out.cur.1 HA6.out.cur.2.1 (by omega) (by omega)).mono ?_
    rintro e w7 ⟨⟨z0, rfl, hz0, hz1⟩, hp⟩
    have hz2 := hz1 (by omega)
    have hwz : IntKind.i64.wrap (z0 - 1) = z0 - 1 := IntWalk.i64_in _ (by omega)
    have HA7 := Lib.hid (HA6.out.cur' hlt hp)
    have hS7 : w7.cell? ⟨xb, 1, none⟩ = some (.slice (some ⟨q, 0, none⟩) sl sc) := HA7.out.x1
    clear hp hz1
    have hrow := HA7.out.xs
    rw [hsl] at hrow
    obtain ⟨u0, hu0⟩ : ∃ u, (ints x.stops)[k]? = some u := ⟨_, List.getElem?_eq_getElem (by rw [ints_len]; omega)⟩
    have y0 := hrow.cellAt k (by omega)
    rw [hu0] at y0
    have yf := hrow.frozenAt
    clear hrow
    go_wp2_with fail
    refine hK.out _ _ hS7 (fun hH8 => ?_)
    clear hK K
    try simp only [Act.put, List.setIfInBounds_toArray, List.set_cons_zero, List.set_cons_succ]
    refine wpAnyU_take (i := 9) (v := ?_) (by simp only [List.getElem?_toArray, List.getElem?_cons_succ, List.getElem?_cons_zero]; rfl) (by kernel_rfl) (by kernel_rfl) (by kernel_rfl) (by kernel_rfl) (by kernel_rfl) (by exact fun _ _ _ h => h) (Or.inl ⟨by rfl, ?_⟩) (by assumption) ?_
    rotate_left
    · intro w' hSw; go_simp; try with_reducible rfl
    try simp only [Act.put, List.setIfInBounds_toArray, List.set_cons_zero, List.set_cons_succ]
    refine wpAnyU_take (i := 10) (v := ?_) (by simp only [List.getElem?_toArray, List.getElem?_cons_succ, List.getElem?_cons_zero]; rfl) (by kernel_rfl) (by kernel_rfl) (by kernel_rfl) (by kernel_rfl) (by kernel_rfl) (by exact fun _ _ _ h => h) (Or.inl ⟨by rfl, ?_⟩) (by assumption) ?_
    rotate_left
    · intro w' hSw; go_simp; try with_reducible rfl
    try simp only [Act.put, List.setIfInBounds_toArray, List.set_cons_zero, List.set_cons_succ]
    refine wpAnyU_ready (rs := [11]) (by kernel_rfl) (by simp) ?_
    refine AllReadyU.last (by simp only [List.getElem?_toArray, List.getElem?_cons_succ, List.getElem?_cons_zero]; rfl) (by kernel_rfl) (fun K hK => ?_)
    go_simp
    refine hK.out _ _ ?_
    clear hK K
    try simp only [Act.put, List.setIfInBounds_toArray, List.set_cons_zero, List.set_cons_succ]
    refine wpAnyU_done (by kernel_rfl) ?_ _
    obtain ⟨lse, xe, hlse, hxs, hxr, hAs⟩ := HA7.out.int HV.out hlt (q := q) (.inl rfl) k (z0 - 1) ⟨by omega, by omega⟩
    have HAs := Lib.hid hAs
    clear hAs hH6 hH8 hS6 hS7 hHeld y0 yf hu0 HA6 HA7 HAd HA5 hwz
    go_upto_region 24 with fail
    obtain ⟨we, hwe⟩ : ∃ we : World, we = w7.setCell ⟨q, k, none⟩ (.int .i64 (z0 - 1)) := ⟨_, rfl⟩
    rw [← hwe] at HAs ⊢
    clear hwe
    obtain ⟨sse, hsse⟩ : ∃ sse, d.stops = sse := ⟨_, rfl⟩
    have hSe : sse.length = S := by rw [← hsse]; exact hS
    rw [hsse] at HAs
    have hLe : lse.length = L := by rw [hlse]; exact hL
    have HAe := HAs
    clear HAs
    have hie : i < lse.length := by omega
    have c0 := HAe.out.c0
    have c1 := HAe.out.c1
    have x0 := HAe.out.x0
    have x1 := HAe.out.x1
    have x2 := HAe.out.x2
    have hve : i < vs.length := by have := HAe.out.own.1; omega
    obtain ⟨e0, e1, e2⟩ := lnC_get lse vs i hie hve
    have HAe' : Hid (AnSt w b (n + 202 + 2 + 2 + 2) v nb xb B (.slice (some ⟨gS, 0, none⟩) S cS) (.slice (some ⟨gl, 0, none⟩) lse.length oc) (.slice (some ⟨q, 0, none⟩) sl sc) (.slice ra rl rc) sse lse vs xe we) := by rw [hLe]; exact HAe
    have y0 := HAe'.out.own.2.1.cellAt (i * 3) (by omega)
    have y1 := HAe'.out.own.2.1.cellAt (i * 3 + 1) (by omega)
    have y2 := HAe'.out.own.2.1.cellAt (i * 3 + 2) (by omega)
    have yf := HAe'.out.own.2.1.frozenAt
    rw [e0] at y0
    rw [e1] at y1
    rw [e2] at y2
    have HPe := Lib.hid (HAe'.out.put HV.out hlt i hie)
    rw [hLe] at HPe
    clear e0 e1 e2 HAe HAe'
    go_upto_region 25 with fail
    obtain ⟨wf, hwf⟩ : ∃ wf : World, wf = ((we.setCell ⟨gl, i * 3, none⟩ (.string xe.name)).setCell ⟨gl, i * 3 + 1, none⟩ (.slice (some ⟨q, 0, none⟩) sl sc)).setCell ⟨gl, i * 3 + 2, none⟩ (.slice ra rl rc) := ⟨_, rfl⟩
    rw [← hwf] at HPe ⊢
    clear hwf c0 c1 x0 x1 x2 y0 y1 y2 yf
    obtain ⟨lsf, hlsf⟩ : ∃ lsf, lse.set i xe = lsf := ⟨_, rfl⟩
    have hLf : lsf.length = L := by rw [← hlsf]; simp [hLe]
    rw [hlsf] at HPe
    obtain ⟨ssf, rfl⟩ : ∃ ssf, ssf = sse := ⟨_, rfl⟩
    have hSf := hSe
    have HAf := HPe
    obtain ⟨oaf, hoaf⟩ : ∃ oaf : Option Addr, some ⟨gl, 0, none⟩ = oaf := ⟨_, rfl⟩
    obtain ⟨ocf, hocf⟩ : ∃ ocf, oc = ocf := ⟨_, rfl⟩
    obtain ⟨Lf, rfl⟩ : ∃ Lf, Lf = L := ⟨_, rfl⟩
    rw [hoaf, hocf] at HAf
    have HF := Lib.hid (HAf.out.fin HV.out hlt)
    have g0 := HAf.out.c0
    have g1 := HAf.out.c1
    obtain ⟨z0, z1, zl, zf⟩ := HAf.out.z
    have hok := HAf.out.ok
    have hnw := HAf.out.hy
    have hcm : n + 202 + 2 + 2 + 2 ≤ n + 700 := by omega
    go_wp2_with fail
    have hE : ∃ (d : NetD) (a : Option Addr) (c : Nat) (oa : Option Addr) (oc u : Nat), Ending.returned (Value.agg #[.slice (some ⟨gS, 0, none⟩) S cS, .slice oaf Lf ocf]) = .returned (.agg #[.slice a d.stops.length c, .slice oa d.lines.length oc]) ∧ (d.stops.length ≤ 8 ∧ ∀ s ∈ d.stops, s.size ≤ 20) ∧ d.lines.length ≤ 12 ∧ (∀ l ∈ d.lines, AnyLn l) ∧ NetL (w.heap.size + 1) u ((wf.setCell ⟨w.heap.size, 0, none⟩ (.slice (some ⟨gS, 0, none⟩) S cS)).setCell ⟨w.heap.size, 1, none⟩ (.slice oaf Lf ocf)) (.agg #[.slice a d.stops.length c, .slice oa d.lines.length oc]) d ∧ u ≤ ((wf.setCell ⟨w.heap.size, 0, none⟩ (.slice (some ⟨gS, 0, none⟩) S cS)).setCell ⟨w.heap.size, 1, none⟩ (.slice oaf Lf ocf)).heap.size := ⟨⟨ssf, lsf⟩, some ⟨gS, 0, none⟩, cS, oaf, ocf, wf.heap.size, (by dsimp only; rw [hSf, hLf]), hok.1, hok.2.1, hok.2.2.1, (by dsimp only; rw [hSf, hLf]; exact HF.out.1), by simp [World.setCell]⟩
    exact bodyPost_ret (v := .agg #[.slice (some ⟨gS, 0, none⟩) S cS, .slice oaf Lf ocf]) (by simp only [results, Try.results41]; go_simp) rfl ⟨by first | exact hE | simpa only [exists_and_left, exists_and_right] using hE, curPost_mono HF.out.2.1 hcm⟩
  · obtain ⟨q, rfl⟩ : ∃ q, ra = some ⟨q, 0, none⟩ := by
      rcases HA5.out.xr.2 with ⟨hv, h0⟩ | ⟨g, cap, cur, hv, _⟩
      · omega
      · simp at hv; exact ⟨g, hv.1⟩
    have x2' := HA5.out.x2
    have hrl0 : 0 < rl := by omega
    have hlt5 : b < w5.drew.heap.size := by have := HA5.out.z.2.2.1; simp; omega
    go_wp2_with fail
    refine wp_region_until 11 (S := (fun w' => w'.cell? ⟨xb, 2, none⟩ = some (.slice (some ⟨q, 0, none⟩) rl rc))) (by kernel_rfl) ?_ (fun hHeld => ?_)
    · exact x2'
    refine wpAnyU_take (i := 0) (v := ?_) (by simp only [List.getElem?_toArray, List.getElem?_cons_zero]; rfl) (by kernel_rfl) (by kernel_rfl) (by kernel_rfl) (by kernel_rfl) (by kernel_rfl) (by exact fun _ _ _ h => h) (Or.inl ⟨by rfl, ?_⟩) (by assumption) ?_
    rotate_left
    · intro w' hSw; go_simp; try with_reducible rfl
    try simp only [Act.put, List.setIfInBounds_toArray, List.set_cons_zero, List.set_cons_succ]
    refine wpAnyU_take (i := 1) (v := ?_) (by simp only [List.getElem?_toArray, List.getElem?_cons_succ, List.getElem?_cons_zero]; rfl) (by kernel_rfl) (by kernel_rfl) (by kernel_rfl) (by kernel_rfl) (by kernel_rfl) (by exact fun _ _ _ h => h) (Or.inl ⟨by rfl, ?_⟩) (by assumption) ?_
    rotate_left
    · intro w' hSw; go_simp; try with_reducible rfl
    try simp only [Act.put, List.setIfInBounds_toArray, List.set_cons_zero, List.set_cons_succ]
    refine wpAnyU_take (i := 2) (v := ?_) (by simp only [List.getElem?_toArray, List.getElem?_cons_succ, List.getElem?_cons_zero]; rfl) (by kernel_rfl) (by kernel_rfl) (by kernel_rfl) (by kernel_rfl) (by kernel_rfl) (by exact fun _ _ _ h => h) (Or.inl ⟨by rfl, ?_⟩) (by assumption) ?_
    rotate_left
    · intro w' hSw; go_simp; try with_reducible rfl
    try simp only [Act.put, List.setIfInBounds_toArray, List.set_cons_zero, List.set_cons_succ]
    refine wpAnyU_take (i := 3) (v := ?_) (by simp only [List.getElem?_toArray, List.getElem?_cons_succ, List.getElem?_cons_zero]; rfl) (by kernel_rfl) (by kernel_rfl) (by kernel_rfl) (by kernel_rfl) (by kernel_rfl) (by exact fun _ _ _ h => h) (Or.inl ⟨by rfl, ?_⟩) (by assumption) ?_
    rotate_left
    · intro w' hSw; go_simp; try with_reducible rfl
    try simp only [Act.put, List.setIfInBounds_toArray, List.set_cons_zero, List.set_cons_succ]
    refine wpAnyU_take (i := 4) (v := ?_) (by simp only [List.getElem?_toArray, List.getElem?_cons_succ, List.getElem?_cons_zero]; rfl) (by kernel_rfl) (by kernel_rfl) (by kernel_rfl) (by kernel_rfl) (by kernel_rfl) (by exact fun _ _ _ h => h) (Or.inl ⟨by rfl, ?_⟩) (by assumption) ?_
    rotate_left
    · intro w' hSw; go_simp; try with_reducible rfl
    try simp only [Act.put, List.setIfInBounds_toArray, List.set_cons_zero, List.set_cons_succ]
    refine wpAnyU_take (i := 5) (v := ?_) (by simp only [List.getElem?_toArray, List.getElem?_cons_succ, List.getElem?_cons_zero]; rfl) (by kernel_rfl) (by kernel_rfl) (by kernel_rfl) (by kernel_rfl) (by kernel_rfl) (by exact fun _ _ _ h => h) (Or.inl ⟨by rfl, ?_⟩) (by assumption) ?_
    rotate_left
    · intro w' hSw; go_simp; try with_reducible rfl
    try simp only [Act.put, List.setIfInBounds_toArray, List.set_cons_zero, List.set_cons_succ]
    refine wpAnyU_take (i := 7) (v := ?_) (by simp only [List.getElem?_toArray, List.getElem?_cons_succ, List.getElem?_cons_zero]; rfl) (by kernel_rfl) (by kernel_rfl) (by kernel_rfl) (by kernel_rfl) (by kernel_rfl) (by exact fun _ _ _ h => h) (Or.inl ⟨by rfl, ?_⟩) (by assumption) ?_
    rotate_left
    · intro w' hSw; go_simp; try with_reducible rfl
    try simp only [Act.put, List.setIfInBounds_toArray, List.set_cons_zero, List.set_cons_succ]
    refine wpAnyU_ready (rs := [6, 8]) (by kernel_rfl) (by simp) ?_
    refine AllReadyU.cons (by simp only [List.getElem?_toArray, List.getElem?_cons_succ, List.getElem?_cons_zero]; rfl) (fun K hK => ?_) (AllReadyU.cons (by simp only [List.getElem?_toArray, List.getElem?_cons_succ, List.getElem?_cons_zero]; rfl) (fun K hK => ?_) AllReadyU.nil)
    · have HAd := Lib.hid HA5.out.drew
      go_simp
      go_at_call 42
      refine (pick_any b (n + 202 + 2) v (rl : Int) _ HAd.out.cur.1 HAd.out.cur.2.1 (by omega) (by omega)).mono ?_
      rintro e w6 ⟨⟨k0, rfl, hk00, hk01⟩, hp⟩
      have hk02 := hk01 (by omega)
      obtain ⟨k, rfl⟩ := Int.eq_ofNat_of_zero_le hk00
      have HA6 := Lib.hid (HAd.out.cur' hlt hp)
      have hS6 : w6.cell? ⟨xb, 2, none⟩ = some (.slice (some ⟨q, 0, none⟩) rl rc) := HA6.out.x2
      clear hp hk01
      go_wp2_with fail
      refine hK.out _ _ hS6 (fun hH6 => ?_)
      clear hK K
      try simp only [Act.put, List.setIfInBounds_toArray, List.set_cons_zero, List.set_cons_succ]
      refine wpAnyU_ready (rs := [8]) (by kernel_rfl) (by simp) ?_
      refine AllReadyU.cons (by simp only [List.getElem?_toArray, List.getElem?_cons_succ, List.getElem?_cons_zero]; rfl) (fun K hK => ?_) AllReadyU.nil
      go_simp
      have HAa := Lib.hid (HA6.out.alloc (.cells #[.int .i64 0, .int .i64 60, .int .i64 61, .int .i64 (-1)] 3))
      have hSa : (w6.alloc (.cells #[.int .i64 0, .int .i64 60, .int .i64 61, .int .i64 (-1)] 3)).cell? ⟨xb, 2, none⟩ = some (.slice (some ⟨q, 0, none⟩) rl rc) := HAa.out.x2
      refine hK.out _ _ hSa (fun hH8 => ?_)
      clear hK K
      try simp only [Act.put, List.setIfInBounds_toArray, List.set_cons_zero, List.set_cons_succ]
      refine wpAnyU_ready (rs := [9]) (by kernel_rfl) (by simp) ?_
      refine AllReadyU.cons (by simp only [List.getElem?_toArray, List.getElem?_cons_succ, List.getElem?_cons_zero]; rfl) (fun K hK => ?_) AllReadyU.nil
      go_simp
      go_at_call 65
      refine (among_any b (n + 202 + 2 + 2) v (.slice (some ⟨w6.heap.size, 0, none⟩) 4 4) [0, 60, 61, -1] _ HAa.out.cur.1 HAa.out.cur.2.1 (by omega) (listOff_built w6 b ([0, 60, 61, -1].map (Value.int .i64)) 3 (by have := HA6.out.z.2.2.1; omega) (by decide)) (by decide) (by decide) (by decide)).mono ?_
      rintro e w7 ⟨⟨z, hz, rfl⟩, hp⟩
      have hz0 := (show ∀ z ∈ ([0, 60, 61, -1] : List Int), -1 ≤ z ∧ z ≤ 1000 by decide) z hz
      have HA7 := Lib.hid (HAa.out.cur' hlt hp)
      have hS7 : w7.cell? ⟨xb, 2, none⟩ = some (.slice (some ⟨q, 0, none⟩) rl rc) := HA7.out.x2
      clear hp hz
      have hrow := HA7.out.xr
      rw [hrl] at hrow
      obtain ⟨u0, hu0⟩ : ∃ u, (ints x.runs)[k]? = some u := ⟨_, List.getElem?_eq_getElem (by rw [ints_len]; omega)⟩
      have y0 := hrow.cellAt k (by omega)
      rw [hu0] at y0
      have yf := hrow.frozenAt
      clear hrow
      go_wp2_with fail
      refine hK.out _ _ hS7 (fun hH9 => ?_)
      clear hK K
      try simp only [Act.put, List.setIfInBounds_toArray, List.set_cons_zero, List.set_cons_succ]
      refine wpAnyU_take (i := 10) (v := ?_) (by simp only [List.getElem?_toArray, List.getElem?_cons_succ, List.getElem?_cons_zero]; rfl) (by kernel_rfl) (by kernel_rfl) (by kernel_rfl) (by kernel_rfl) (by kernel_rfl) (by exact fun _ _ _ h => h) (Or.inl ⟨by rfl, ?_⟩) (by assumption) ?_
      rotate_left
      · intro w' hSw; go_simp; try with_reducible rfl
      try simp only [Act.put, List.setIfInBounds_toArray, List.set_cons_zero, List.set_cons_succ]
      refine wpAnyU_ready (rs := [11]) (by kernel_rfl) (by simp) ?_
      refine AllReadyU.last (by simp only [List.getElem?_toArray, List.getElem?_cons_succ, List.getElem?_cons_zero]; rfl) (by kernel_rfl) (fun K hK => ?_)
      go_simp
      refine hK.out _ _ ?_
      clear hK K
      try simp only [Act.put, List.setIfInBounds_toArray, List.set_cons_zero, List.set_cons_succ]
      refine wpAnyU_done (by kernel_rfl) ?_ _
      obtain ⟨lse, xe, hlse, hxs, hxr, hAs⟩ := HA7.out.int HV.out hlt (q := q) (.inr rfl) k (z) ⟨by omega, by omega⟩
      have HAs := Lib.hid hAs
      clear hAs hH6 hH8 hH9 hS6 hS7 hSa hHeld y0 yf hu0 HA6 HA7 HAa HAd HA5
      go_upto_region 24 with fail
      obtain ⟨we, hwe⟩ : ∃ we : World, we = w7.setCell ⟨q, k, none⟩ (.int .i64 (z)) := ⟨_, rfl⟩
      rw [← hwe] at HAs ⊢
      clear hwe
      obtain ⟨sse, hsse⟩ : ∃ sse, d.stops = sse := ⟨_, rfl⟩
      have hSe : sse.length = S := by rw [← hsse]; exact hS
      rw [hsse] at HAs
      have hLe : lse.length = L := by rw [hlse]; exact hL
      have HAe := HAs
      clear HAs
      have hie : i < lse.length := by omega
      have c0 := HAe.out.c0
      have c1 := HAe.out.c1
      have x0 := HAe.out.x0
      have x1 := HAe.out.x1
      have x2 := HAe.out.x2
      have hve : i < vs.length := by have := HAe.out.own.1; omega
      obtain ⟨e0, e1, e2⟩ := lnC_get lse vs i hie hve
      have HAe' : Hid (AnSt w b (n + 202 + 2 + 2 + 2) v nb xb B (.slice (some ⟨gS, 0, none⟩) S cS) (.slice (some ⟨gl, 0, none⟩) lse.length oc) (.slice sa sl sc) (.slice (some ⟨q, 0, none⟩) rl rc) sse lse vs xe we) := by rw [hLe]; exact HAe
      have y0 := HAe'.out.own.2.1.cellAt (i * 3) (by omega)
      have y1 := HAe'.out.own.2.1.cellAt (i * 3 + 1) (by omega)
      have y2 := HAe'.out.own.2.1.cellAt (i * 3 + 2) (by omega)
      have yf := HAe'.out.own.2.1.frozenAt
      rw [e0] at y0
      rw [e1] at y1
      rw [e2] at y2
      have HPe := Lib.hid (HAe'.out.put HV.out hlt i hie)
      rw [hLe] at HPe
      clear e0 e1 e2 HAe HAe'
      go_upto_region 25 with fail
      obtain ⟨wf, hwf⟩ : ∃ wf : World, wf = ((we.setCell ⟨gl, i * 3, none⟩ (.string xe.name)).setCell ⟨gl, i * 3 + 1, none⟩ (.slice sa sl sc)).setCell ⟨gl, i * 3 + 2, none⟩ (.slice (some ⟨q, 0, none⟩) rl rc) := ⟨_, rfl⟩
      rw [← hwf] at HPe ⊢
      clear hwf c0 c1 x0 x1 x2 y0 y1 y2 yf
      obtain ⟨lsf, hlsf⟩ : ∃ lsf, lse.set i xe = lsf := ⟨_, rfl⟩
      have hLf : lsf.length = L := by rw [← hlsf]; simp [hLe]
      rw [hlsf] at HPe
      obtain ⟨ssf, rfl⟩ : ∃ ssf, ssf = sse := ⟨_, rfl⟩
      have hSf := hSe
      have HAf := HPe
      obtain ⟨oaf, hoaf⟩ : ∃ oaf : Option Addr, some ⟨gl, 0, none⟩ = oaf := ⟨_, rfl⟩
      obtain ⟨ocf, hocf⟩ : ∃ ocf, oc = ocf := ⟨_, rfl⟩
      obtain ⟨Lf, rfl⟩ : ∃ Lf, Lf = L := ⟨_, rfl⟩
      rw [hoaf, hocf] at HAf
      have HF := Lib.hid (HAf.out.fin HV.out hlt)
      have g0 := HAf.out.c0
      have g1 := HAf.out.c1
      obtain ⟨z0, z1, zl, zf⟩ := HAf.out.z
      have hok := HAf.out.ok
      have hnw := HAf.out.hy
      have hcm : n + 202 + 2 + 2 + 2 ≤ n + 700 := by omega
      go_wp2_with fail
      have hE : ∃ (d : NetD) (a : Option Addr) (c : Nat) (oa : Option Addr) (oc u : Nat), Ending.returned (Value.agg #[.slice (some ⟨gS, 0, none⟩) S cS, .slice oaf Lf ocf]) = .returned (.agg #[.slice a d.stops.length c, .slice oa d.lines.length oc]) ∧ (d.stops.length ≤ 8 ∧ ∀ s ∈ d.stops, s.size ≤ 20) ∧ d.lines.length ≤ 12 ∧ (∀ l ∈ d.lines, AnyLn l) ∧ NetL (w.heap.size + 1) u ((wf.setCell ⟨w.heap.size, 0, none⟩ (.slice (some ⟨gS, 0, none⟩) S cS)).setCell ⟨w.heap.size, 1, none⟩ (.slice oaf Lf ocf)) (.agg #[.slice a d.stops.length c, .slice oa d.lines.length oc]) d ∧ u ≤ ((wf.setCell ⟨w.heap.size, 0, none⟩ (.slice (some ⟨gS, 0, none⟩) S cS)).setCell ⟨w.heap.size, 1, none⟩ (.slice oaf Lf ocf)).heap.size := ⟨⟨ssf, lsf⟩, some ⟨gS, 0, none⟩, cS, oaf, ocf, wf.heap.size, (by dsimp only; rw [hSf, hLf]), hok.1, hok.2.1, hok.2.2.1, (by dsimp only; rw [hSf, hLf]; exact HF.out.1), by simp [World.setCell]⟩
      exact bodyPost_ret (v := .agg #[.slice (some ⟨gS, 0, none⟩) S cS, .slice oaf Lf ocf]) (by simp only [results, Try.results41]; go_simp) rfl ⟨by first | exact hE | simpa only [exists_and_left, exists_and_right] using hE, curPost_mono HF.out.2.1 hcm⟩
    · go_simp
      have HAd := Lib.hid HA5.out.drew
      have HAa := Lib.hid (HAd.out.alloc (.cells #[.int .i64 0, .int .i64 60, .int .i64 61, .int .i64 (-1)] 3))
      have hSa : (w5.drew.alloc (.cells #[.int .i64 0, .int .i64 60, .int .i64 61, .int .i64 (-1)] 3)).cell? ⟨xb, 2, none⟩ = some (.slice (some ⟨q, 0, none⟩) rl rc) := HAa.out.x2
      refine hK.out _ _ hSa (fun hH8 => ?_)
      clear hK K
      try simp only [Act.put, List.setIfInBounds_toArray, List.set_cons_zero, List.set_cons_succ]
      refine wpAnyU_ready (rs := [6]) (by kernel_rfl) (by simp) ?_
      refine AllReadyU.cons (by simp only [List.getElem?_toArray, List.getElem?_cons_succ, List.getElem?_cons_zero]; rfl) (fun K hK => ?_) AllReadyU.nil
      go_simp
      go_at_call 42
      refine (pick_any b (n + 202 + 2) v (rl : Int) _ HAa.out.cur.1 HAa.out.cur.2.1 (by omega) (by omega)).mono ?_
      rintro e w6 ⟨⟨k0, rfl, hk00, hk01⟩, hp⟩
      have hk02 := hk01 (by omega)
      obtain ⟨k, rfl⟩ := Int.eq_ofNat_of_zero_le hk00
      have HA6 := Lib.hid (HAa.out.cur' hlt hp)
      have hS6 : w6.cell? ⟨xb, 2, none⟩ = some (.slice (some ⟨q, 0, none⟩) rl rc) := HA6.out.x2
      have hg6 := hp.2.2
      clear hp hk01
      go_wp2_with fail
      refine hK.out _ _ hS6 (fun hH6 => ?_)
      clear hK K
      try simp only [Act.put, List.setIfInBounds_toArray, List.set_cons_zero, List.set_cons_succ]
      refine wpAnyU_ready (rs := [9]) (by kernel_rfl) (by simp) ?_
      refine AllReadyU.cons (by simp only [List.getElem?_toArray, List.getElem?_cons_succ, List.getElem?_cons_zero]; rfl) (fun K hK => ?_) AllReadyU.nil
      go_simp
      go_at_call 65
      refine (among_any b (n + 202 + 2 + 2) v (.slice (some ⟨w5.heap.size, 0, none⟩) 4 4) [0, 60, 61, -1] _ HA6.out.cur.1 HA6.out.cur.2.1 (by omega) (listOff_grown (listOff_built w5.drew b ([0, 60, 61, -1].map (Value.int .i64)) 3 hlt5 (by decide)) hg6) (by decide) (by decide) (by decide)).mono ?_
      rintro e w7 ⟨⟨z, hz, rfl⟩, hp⟩
      have hz0 := (show ∀ z ∈ ([0, 60, 61, -1] : List Int), -1 ≤ z ∧ z ≤ 1000 by decide) z hz
      have HA7 := Lib.hid (HA6.out.cur' hlt hp)
      have hS7 : w7.cell? ⟨xb, 2, none⟩ = some (.slice (some ⟨q, 0, none⟩) rl rc) := HA7.out.x2
      clear hp hz
      have hrow := HA7.out.xr
      rw [hrl] at hrow
      obtain ⟨u0, hu0⟩ : ∃ u, (ints x.runs)[k]? = some u := ⟨_, List.getElem?_eq_getElem (by rw [ints_len]; omega)⟩
      have y0 := hrow.cellAt k (by omega)
      rw [hu0] at y0
      have yf := hrow.frozenAt
      clear hrow
      go_wp2_with fail
      refine hK.out _ _ hS7 (fun hH9 => ?_)
      clear hK K
      try simp only [Act.put, List.setIfInBounds_toArray, List.set_cons_zero, List.set_cons_succ]
      refine wpAnyU_take (i := 10) (v := ?_) (by simp only [List.getElem?_toArray, List.getElem?_cons_succ, List.getElem?_cons_zero]; rfl) (by kernel_rfl) (by kernel_rfl) (by kernel_rfl) (by kernel_rfl) (by kernel_rfl) (by exact fun _ _ _ h => h) (Or.inl ⟨by rfl, ?_⟩) (by assumption) ?_
      rotate_left
      · intro w' hSw; go_simp; try with_reducible rfl
      try simp only [Act.put, List.setIfInBounds_toArray, List.set_cons_zero, List.set_cons_succ]
      refine wpAnyU_ready (rs := [11]) (by kernel_rfl) (by simp) ?_
      refine AllReadyU.last (by simp only [List.getElem?_toArray, List.getElem?_cons_succ, List.getElem?_cons_zero]; rfl) (by kernel_rfl) (fun K hK => ?_)
      go_simp
      refine hK.out _ _ ?_
      clear hK K
      try simp only [Act.put, List.setIfInBounds_toArray, List.set_cons_zero, List.set_cons_succ]
      refine wpAnyU_done (by kernel_rfl) ?_ _
      obtain ⟨lse, xe, hlse, hxs, hxr, hAs⟩ := HA7.out.int HV.out hlt (q := q) (.inr rfl) k (z) ⟨by omega, by omega⟩
      have HAs := Lib.hid hAs
      clear hAs hH6 hH8 hH9 hS6 hS7 hSa hHeld y0 yf hu0 HA6 HA7 HAa HAd HA5 hg6
      go_upto_region 24 with fail
      obtain ⟨we, hwe⟩ : ∃ we : World, we = w7.setCell ⟨q, k, none⟩ (.int .i64 (z)) := ⟨_, rfl⟩
      rw [← hwe] at HAs ⊢
      clear hwe
      obtain ⟨sse, hsse⟩ : ∃ sse, d.stops = sse := ⟨_, rfl⟩
      have hSe : sse.length = S := by rw [← hsse]; exact hS
      rw [hsse] at HAs
      have hLe : lse.length = L := by rw [hlse]; exact hL
      have HAe := HAs
      clear HAs
      have hie : i < lse.length := by omega
      have c0 := HAe.out.c0
      have c1 := HAe.out.c1
      have x0 := HAe.out.x0
      have x1 := HAe.out.x1
      have x2 := HAe.out.x2
      have hve : i < vs.length := by have := HAe.out.own.1; omega
      obtain ⟨e0, e1, e2⟩ := lnC_get lse vs i hie hve
      have HAe' : Hid (AnSt w b (n + 202 + 2 + 2 + 2) v nb xb B (.slice (some ⟨gS, 0, none⟩) S cS) (.slice (some ⟨gl, 0, none⟩) lse.length oc) (.slice sa sl sc) (.slice (some ⟨q, 0, none⟩) rl rc) sse lse vs xe we) := by rw [hLe]; exact HAe
      have y0 := HAe'.out.own.2.1.cellAt (i * 3) (by omega)
      have y1 := HAe'.out.own.2.1.cellAt (i * 3 + 1) (by omega)
      have y2 := HAe'.out.own.2.1.cellAt (i * 3 + 2) (by omega)
      have yf := HAe'.out.own.2.1.frozenAt
      rw [e0] at y0
      rw [e1] at y1
      rw [e2] at y2
      have HPe := Lib.hid (HAe'.out.put HV.out hlt i hie)
      rw [hLe] at HPe
      clear e0 e1 e2 HAe HAe'
      go_upto_region 25 with fail
      obtain ⟨wf, hwf⟩ : ∃ wf : World, wf = ((we.setCell ⟨gl, i * 3, none⟩ (.string xe.name)).setCell ⟨gl, i * 3 + 1, none⟩ (.slice sa sl sc)).setCell ⟨gl, i * 3 + 2, none⟩ (.slice (some ⟨q, 0, none⟩) rl rc) := ⟨_, rfl⟩
      rw [← hwf] at HPe ⊢
      clear hwf c0 c1 x0 x1 x2 y0 y1 y2 yf
      obtain ⟨lsf, hlsf⟩ : ∃ lsf, lse.set i xe = lsf := ⟨_, rfl⟩
      have hLf : lsf.length = L := by rw [← hlsf]; simp [hLe]
      rw [hlsf] at HPe
      obtain ⟨ssf, rfl⟩ : ∃ ssf, ssf = sse := ⟨_, rfl⟩
      have hSf := hSe
      have HAf := HPe
      obtain ⟨oaf, hoaf⟩ : ∃ oaf : Option Addr, some ⟨gl, 0, none⟩ = oaf := ⟨_, rfl⟩
      obtain ⟨ocf, hocf⟩ : ∃ ocf, oc = ocf := ⟨_, rfl⟩
      obtain ⟨Lf, rfl⟩ : ∃ Lf, Lf = L := ⟨_, rfl⟩
      rw [hoaf, hocf] at HAf
      have HF := Lib.hid (HAf.out.fin HV.out hlt)
      have g0 := HAf.out.c0
      have g1 := HAf.out.c1
      obtain ⟨z0, z1, zl, zf⟩ := HAf.out.z
      have hok := HAf.out.ok
      have hnw := HAf.out.hy
      have hcm : n + 202 + 2 + 2 + 2 ≤ n + 700 := by omega
      go_wp2_with fail
      have hE : ∃ (d : NetD) (a : Option Addr) (c : Nat) (oa : Option Addr) (oc u : Nat), Ending.returned (Value.agg #[.slice (some ⟨gS, 0, none⟩) S cS, .slice oaf Lf ocf]) = .returned (.agg #[.slice a d.stops.length c, .slice oa d.lines.length oc]) ∧ (d.stops.length ≤ 8 ∧ ∀ s ∈ d.stops, s.size ≤ 20) ∧ d.lines.length ≤ 12 ∧ (∀ l ∈ d.lines, AnyLn l) ∧ NetL (w.heap.size + 1) u ((wf.setCell ⟨w.heap.size, 0, none⟩ (.slice (some ⟨gS, 0, none⟩) S cS)).setCell ⟨w.heap.size, 1, none⟩ (.slice oaf Lf ocf)) (.agg #[.slice a d.stops.length c, .slice oa d.lines.length oc]) d ∧ u ≤ ((wf.setCell ⟨w.heap.size, 0, none⟩ (.slice (some ⟨gS, 0, none⟩) S cS)).setCell ⟨w.heap.size, 1, none⟩ (.slice oaf Lf ocf)).heap.size := ⟨⟨ssf, lsf⟩, some ⟨gS, 0, none⟩, cS, oaf, ocf, wf.heap.size, (by dsimp only; rw [hSf, hLf]), hok.1, hok.2.1, hok.2.2.1, (by dsimp only; rw [hSf, hLf]; exact HF.out.1), by simp [World.setCell]⟩
      exact bodyPost_ret (v := .agg #[.slice (some ⟨gS, 0, none⟩) S cS, .slice oaf Lf ocf]) (by simp only [results, Try.results41]; go_simp) rfl ⟨by first | exact hE | simpa only [exists_and_left, exists_and_right] using hE, curPost_mono HF.out.2.1 hcm⟩
  · obtain ⟨q, rfl⟩ : ∃ q, ra = some ⟨q, 0, none⟩ := by
      rcases HA5.out.xr.2 with ⟨hv, h0⟩ | ⟨g, cap, cur, hv, _⟩
      · omega
      · simp at hv; exact ⟨g, hv.1⟩
    have hBW : B ≤ w5.heap.size := by have := (HA5.out.own.2.1.lt gl rfl); omega
    have x2' := HA5.out.x2
    have HAa := Lib.hid (HA5.out.alloc (.cells #[.int .i64 3] 3))
    obtain ⟨v', w6, lse, xe, hrun, hlse, hAs, b2, hf, a3, c3, hv3⟩ := HAa.out.appR HV.out hlt (g := w5.heap.size) (z := 3) (by go_simp) (by omega) (by omega) (by simp; omega)
    rw [hrl, hXl.2.2] at hv3
    subst hv3
    have HAs := Lib.hid hAs
    clear hAs
    go_upto_region 24 with (at_builtin; refine wpList_append_run rfl (.tmp 64) (.tmp 65) 34 rfl rfl rfl hrun ?_)
    clear hrun
    obtain ⟨we, hwe⟩ : ∃ we : World, we = w6.setCell ⟨xb, 2, none⟩ (.slice a3 sl c3) := ⟨_, rfl⟩
    rw [← hwe] at HAs ⊢
    clear hwe x2' b2 hf HA5 HAa
    obtain ⟨sse, hsse⟩ : ∃ sse, d.stops = sse := ⟨_, rfl⟩
    have hSe : sse.length = S := by rw [← hsse]; exact hS
    rw [hsse] at HAs
    have hLe : lse.length = L := by rw [hlse]; exact hL
    have HAe := HAs
    clear HAs
    have hie : i < lse.length := by omega
    have c0 := HAe.out.c0
    have c1 := HAe.out.c1
    have x0 := HAe.out.x0
    have x1 := HAe.out.x1
    have x2 := HAe.out.x2
    have hve : i < vs.length := by have := HAe.out.own.1; omega
    obtain ⟨e0, e1, e2⟩ := lnC_get lse vs i hie hve
    have HAe' : Hid (AnSt w b (n + 202 + 2) v nb xb B (.slice (some ⟨gS, 0, none⟩) S cS) (.slice (some ⟨gl, 0, none⟩) lse.length oc) (.slice sa sl sc) (.slice a3 sl c3) sse lse vs xe we) := by rw [hLe]; exact HAe
    have y0 := HAe'.out.own.2.1.cellAt (i * 3) (by omega)
    have y1 := HAe'.out.own.2.1.cellAt (i * 3 + 1) (by omega)
    have y2 := HAe'.out.own.2.1.cellAt (i * 3 + 2) (by omega)
    have yf := HAe'.out.own.2.1.frozenAt
    rw [e0] at y0
    rw [e1] at y1
    rw [e2] at y2
    have HPe := Lib.hid (HAe'.out.put HV.out hlt i hie)
    rw [hLe] at HPe
    clear e0 e1 e2 HAe HAe'
    go_upto_region 25 with fail
    obtain ⟨wf, hwf⟩ : ∃ wf : World, wf = ((we.setCell ⟨gl, i * 3, none⟩ (.string xe.name)).setCell ⟨gl, i * 3 + 1, none⟩ (.slice sa sl sc)).setCell ⟨gl, i * 3 + 2, none⟩ (.slice a3 sl c3) := ⟨_, rfl⟩
    rw [← hwf] at HPe ⊢
    clear hwf c0 c1 x0 x1 x2 y0 y1 y2 yf
    obtain ⟨lsf, hlsf⟩ : ∃ lsf, lse.set i xe = lsf := ⟨_, rfl⟩
    have hLf : lsf.length = L := by rw [← hlsf]; simp [hLe]
    rw [hlsf] at HPe
    obtain ⟨ssf, rfl⟩ : ∃ ssf, ssf = sse := ⟨_, rfl⟩
    have hSf := hSe
    have HAf := HPe
    obtain ⟨oaf, hoaf⟩ : ∃ oaf : Option Addr, some ⟨gl, 0, none⟩ = oaf := ⟨_, rfl⟩
    obtain ⟨ocf, hocf⟩ : ∃ ocf, oc = ocf := ⟨_, rfl⟩
    obtain ⟨Lf, rfl⟩ : ∃ Lf, Lf = L := ⟨_, rfl⟩
    rw [hoaf, hocf] at HAf
    have HF := Lib.hid (HAf.out.fin HV.out hlt)
    have g0 := HAf.out.c0
    have g1 := HAf.out.c1
    obtain ⟨z0, z1, zl, zf⟩ := HAf.out.z
    have hok := HAf.out.ok
    have hnw := HAf.out.hy
    have hcm : n + 202 + 2 ≤ n + 700 := by omega
    go_wp2_with fail
    have hE : ∃ (d : NetD) (a : Option Addr) (c : Nat) (oa : Option Addr) (oc u : Nat), Ending.returned (Value.agg #[.slice (some ⟨gS, 0, none⟩) S cS, .slice oaf Lf ocf]) = .returned (.agg #[.slice a d.stops.length c, .slice oa d.lines.length oc]) ∧ (d.stops.length ≤ 8 ∧ ∀ s ∈ d.stops, s.size ≤ 20) ∧ d.lines.length ≤ 12 ∧ (∀ l ∈ d.lines, AnyLn l) ∧ NetL (w.heap.size + 1) u ((wf.setCell ⟨w.heap.size, 0, none⟩ (.slice (some ⟨gS, 0, none⟩) S cS)).setCell ⟨w.heap.size, 1, none⟩ (.slice oaf Lf ocf)) (.agg #[.slice a d.stops.length c, .slice oa d.lines.length oc]) d ∧ u ≤ ((wf.setCell ⟨w.heap.size, 0, none⟩ (.slice (some ⟨gS, 0, none⟩) S cS)).setCell ⟨w.heap.size, 1, none⟩ (.slice oaf Lf ocf)).heap.size := ⟨⟨ssf, lsf⟩, some ⟨gS, 0, none⟩, cS, oaf, ocf, wf.heap.size, (by dsimp only; rw [hSf, hLf]), hok.1, hok.2.1, hok.2.2.1, (by dsimp only; rw [hSf, hLf]; exact HF.out.1), by simp [World.setCell]⟩
    exact bodyPost_ret (v := .agg #[.slice (some ⟨gS, 0, none⟩) S cS, .slice oaf Lf ocf]) (by simp only [results, Try.results41]; go_simp) rfl ⟨by first | exact hE | simpa only [exists_and_left, exists_and_right] using hE, curPost_mono HF.out.2.1 hcm⟩
  · have HAq := Lib.hid (HA5.out.alloc (.cells #[] 36))
    have c0' := HAq.out.c0
    have c1' := HAq.out.c1
    have hf := HAq.out.f
    have hBW : B ≤ w5.heap.size := by have := (HA5.out.own.2.1.lt gl rfl); omega
    have HAn := Lib.hid (HA5.out.noLines HV.out hlt hBW)
    go_upto_region 17 with fail
    obtain ⟨wf, hwf⟩ : ∃ wf : World, wf = (w5.alloc (.cells #[] 36)).setCell ⟨nb, 1, none⟩ (.slice (some ⟨w5.heap.size, 0, none⟩) 0 0) := ⟨_, rfl⟩
    rw [← hwf] at HAn ⊢
    clear hwf c0' c1' hf HA5 HAq
    obtain ⟨ssf, hssf⟩ : ∃ ssf, d.stops = ssf := ⟨_, rfl⟩
    rw [hssf] at HAn
    have hSf : ssf.length = S := by rw [← hssf]; exact hS
    obtain ⟨lsf, hlsf⟩ : ∃ lsf : List LineD, [] = lsf := ⟨_, rfl⟩
    rw [hlsf] at HAn
    obtain ⟨Lf, hLf0⟩ : ∃ Lf : Nat, 0 = Lf := ⟨_, rfl⟩
    have hLf : lsf.length = Lf := by rw [← hlsf, ← hLf0]; rfl
    obtain ⟨oaf, hoaf⟩ : ∃ oaf : Option Addr, some ⟨w5.heap.size, 0, none⟩ = oaf := ⟨_, rfl⟩
    obtain ⟨ocf, hocf⟩ : ∃ ocf : Nat, 0 = ocf := ⟨_, rfl⟩
    have HAf : Hid (AnSt w b (n + 202 + 2) v nb xb B (.slice (some ⟨gS, 0, none⟩) S cS) (.slice oaf Lf ocf) (.slice sa sl sc) (.slice ra rl rc) ssf lsf [] x wf) := by rw [← hoaf, ← hLf0, ← hocf]; exact HAn
    clear HAn hoaf hLf0 hocf hlsf hssf
    have HF := Lib.hid (HAf.out.fin HV.out hlt)
    have g0 := HAf.out.c0
    have g1 := HAf.out.c1
    obtain ⟨z0, z1, zl, zf⟩ := HAf.out.z
    have hok := HAf.out.ok
    have hnw := HAf.out.hy
    have hcm : n + 202 + 2 ≤ n + 700 := by omega
    go_wp2_with fail
    have hE : ∃ (d : NetD) (a : Option Addr) (c : Nat) (oa : Option Addr) (oc u : Nat), Ending.returned (Value.agg #[.slice (some ⟨gS, 0, none⟩) S cS, .slice oaf Lf ocf]) = .returned (.agg #[.slice a d.stops.length c, .slice oa d.lines.length oc]) ∧ (d.stops.length ≤ 8 ∧ ∀ s ∈ d.stops, s.size ≤ 20) ∧ d.lines.length ≤ 12 ∧ (∀ l ∈ d.lines, AnyLn l) ∧ NetL (w.heap.size + 1) u ((wf.setCell ⟨w.heap.size, 0, none⟩ (.slice (some ⟨gS, 0, none⟩) S cS)).setCell ⟨w.heap.size, 1, none⟩ (.slice oaf Lf ocf)) (.agg #[.slice a d.stops.length c, .slice oa d.lines.length oc]) d ∧ u ≤ ((wf.setCell ⟨w.heap.size, 0, none⟩ (.slice (some ⟨gS, 0, none⟩) S cS)).setCell ⟨w.heap.size, 1, none⟩ (.slice oaf Lf ocf)).heap.size := ⟨⟨ssf, lsf⟩, some ⟨gS, 0, none⟩, cS, oaf, ocf, wf.heap.size, (by dsimp only; rw [hSf, hLf]), hok.1, hok.2.1, hok.2.2.1, (by dsimp only; rw [hSf, hLf]; exact HF.out.1), by simp [World.setCell]⟩
    exact bodyPost_ret (v := .agg #[.slice (some ⟨gS, 0, none⟩) S cS, .slice oaf Lf ocf]) (by simp only [results, Try.results41]; go_simp) rfl ⟨by first | exact hE | simpa only [exists_and_left, exists_and_right] using hE, curPost_mono HF.out.2.1 hcm⟩
  · have hcatk : ∀ k : Nat, (⟨#[120]⟩ : ByteArray) ++ ⟨(Lib.itoa (k : Int)).toArray⟩ = nmX k := fun k => by
      show (⟨[120].toArray⟩ : ByteArray) ++ ⟨(Lib.itoa (k : Int)).toArray⟩ = _
      rw [ByteArray.mk_append_mk]; unfold nmX; rfl
    have hBw : B ≤ w5.heap.size := by omega
    have HN0 : Hid (AnSt w b (n + 204) v nb xb B (.slice (some ⟨gS, 0, none⟩) S cS) (.slice (some ⟨gl, 0, none⟩) d.lines.length oc) (.slice sa sl sc) (.slice ra rl rc) d.stops d.lines vs x w5) := by rw [hL]; exact HA5
    clear HA5
    go_wp2_with fail
    go_loopw [6] (fun p wr => ∃ (k : Nat) (ls : List LineD) (vs : List (Value × Value)) (oa : Option Addr) (oc m : Nat), k ≤ 7 ∧ p = .int .i64 (k : Int) ∧ ls.length ≤ 6 ∧ m + 42 * (7 - k) ≤ n + 204 + 294 ∧ Hid (AnSt w b m v nb xb B (.slice (some ⟨gS, 0, none⟩) S cS) (.slice oa ls.length oc) (.slice sa sl sc) (.slice ra rl rc) d.stops ls vs x wr)) (fun p _ => 7 - (RowKit.intOf p).toNat)
    case atStart => exact ⟨0, d.lines, vs, some ⟨gl, 0, none⟩, oc, n + 204, by omega, rfl, by omega, by omega, HN0⟩
    case round =>
      clear HN0
      obtain ⟨ws, rfl⟩ : ∃ ws : World, ws = wr := ⟨_, rfl⟩
      obtain ⟨k, ls, vs, oa, oc, m, hk7, rfl, hl6, hmm, HN⟩ := hrel
      have c1' := HN.out.c1
      by_cases hk : k < 7
      · have hkI : (k : Int) < 7 := by omega
        have hlenk : ¬ 9223372036854775807 < 1 + (Lib.itoa (k : Int)).length := by
          have h := Lib.nDigits_le20 k (by omega)
          rw [Lib.itoa_nonneg, Lib.decDigits_length]
          omega
        go_wp2_with fail
        refine wp_region_held_drew (S := (fun w' => w'.cell? ⟨nb, 1, none⟩ = some (.slice oa ls.length oc))) (by kernel_rfl) ?_ (fun hHeld => ?_)
        · exact c1'
        refine wpAnyH_take (i := 0) (v := ?_) (by simp only [List.getElem?_toArray, List.getElem?_cons_zero]; rfl) (by kernel_rfl) (by kernel_rfl) (by kernel_rfl) (by exact fun _ _ _ h => h) (Or.inl ⟨by rfl, ?_⟩) (by assumption) ?_
        rotate_left
        · intro w' hSw; go_simp; try with_reducible rfl
        try simp only [Act.put, List.setIfInBounds_toArray, List.set_cons_zero, List.set_cons_succ]
        refine wpAnyH_take (i := 1) (v := ?_) (by simp only [List.getElem?_toArray, List.getElem?_cons_succ, List.getElem?_cons_zero]; rfl) (by kernel_rfl) (by kernel_rfl) (by kernel_rfl) (by exact fun _ _ _ h => h) (Or.inl ⟨by rfl, ?_⟩) (by assumption) ?_
        rotate_left
        · intro w' hSw; go_simp; try with_reducible rfl
        try simp only [Act.put, List.setIfInBounds_toArray, List.set_cons_zero, List.set_cons_succ]
        refine wpAnyH_take (i := 2) (v := ?_) (by simp only [List.getElem?_toArray, List.getElem?_cons_succ, List.getElem?_cons_zero]; rfl) (by kernel_rfl) (by kernel_rfl) (by kernel_rfl) (by exact fun _ _ _ h => h) (Or.inl ⟨by rfl, ?_⟩) (by assumption) ?_
        rotate_left
        · intro w' hSw; go_simp; try with_reducible rfl
        try simp only [Act.put, List.setIfInBounds_toArray, List.set_cons_zero, List.set_cons_succ]
        refine wpAnyH_take (i := 3) (v := ?_) (by simp only [List.getElem?_toArray, List.getElem?_cons_succ, List.getElem?_cons_zero]; rfl) (by kernel_rfl) (by kernel_rfl) (by kernel_rfl) (by exact fun _ _ _ h => h) (Or.inl ⟨by rfl, ?_⟩) (by assumption) ?_
        rotate_left
        · intro w' hSw; go_simp; try with_reducible rfl
        try simp only [Act.put, List.setIfInBounds_toArray, List.set_cons_zero, List.set_cons_succ]
        refine wpAnyH_ready (rs := [4]) (by kernel_rfl) (by simp) ?_
        refine AllReadyH.cons (by simp only [List.getElem?_toArray, List.getElem?_cons_succ, List.getElem?_cons_zero]; rfl) (fun K hK => ?_) AllReadyH.nil
        go_simp
        have HNd := Lib.hid HN.out.drew
        go_at_call 42
        refine (pick_any b m v 2 _ HNd.out.cur.1 HNd.out.cur.2.1 (by omega) (by omega)).mono ?_
        rintro e wo ⟨⟨r, rfl, hr0, hr1⟩, hp⟩
        have hr2 := hr1 (by omega)
        have hw5 : IntKind.i64.wrap (5 + r) = 5 + r := IntWalk.i64_in _ (by omega)
        have HNo := Lib.hid (HNd.out.cur' hlt hp)
        have hS1 : wo.cell? ⟨nb, 1, none⟩ = some (.slice oa ls.length oc) := HNo.out.c1
        clear hp hr1 HN HNd
        go_wp2_with fail
        refine hK.out _ _ hS1 (fun hH4 => ?_)
        by_cases hcL : (ls.length : Int) < 5 + r
        · clear hK K
          try simp only [Act.put, List.setIfInBounds_toArray, List.set_cons_zero, List.set_cons_succ]
          refine wpAnyH_take (i := 5) (v := ?_) (by simp only [List.getElem?_toArray, List.getElem?_cons_succ, List.getElem?_cons_zero]; rfl) (by kernel_rfl) (by kernel_rfl) (by kernel_rfl) (by exact fun _ _ _ h => h) (Or.inl ⟨by rfl, ?_⟩) (by assumption) ?_
          rotate_left
          · intro w' hSw; go_simp; try with_reducible rfl
          try simp only [Act.put, List.setIfInBounds_toArray, List.set_cons_zero, List.set_cons_succ]
          refine wpAnyH_take (i := 6) (v := ?_) (by simp only [List.getElem?_toArray, List.getElem?_cons_succ, List.getElem?_cons_zero]; rfl) (by kernel_rfl) (by kernel_rfl) (by kernel_rfl) (by exact fun _ _ _ h => h) (Or.inl ⟨by rfl, ?_⟩) (by assumption) ?_
          rotate_left
          · intro w' hSw; go_simp; try with_reducible rfl
          try simp only [Act.put, List.setIfInBounds_toArray, List.set_cons_zero, List.set_cons_succ]
          refine wpAnyH_take (i := 7) (v := ?_) (by simp only [List.getElem?_toArray, List.getElem?_cons_succ, List.getElem?_cons_zero]; rfl) (by kernel_rfl) (by kernel_rfl) (by kernel_rfl) (by exact fun _ _ _ h => h) (Or.inl ⟨by rfl, ?_⟩) (by assumption) ?_
          rotate_left
          · intro w' hSw; go_simp; try with_reducible rfl
          try simp only [Act.put, List.setIfInBounds_toArray, List.set_cons_zero, List.set_cons_succ]
          refine wpAnyH_take (i := 8) (v := ?_) (by simp only [List.getElem?_toArray, List.getElem?_cons_succ, List.getElem?_cons_zero]; rfl) (by kernel_rfl) (by kernel_rfl) (by kernel_rfl) (by exact fun _ _ _ h => h) (Or.inl ⟨by rfl, ?_⟩) (by assumption) ?_
          rotate_left
          · intro w' hSw; go_simp; try with_reducible rfl
          try simp only [Act.put, List.setIfInBounds_toArray, List.set_cons_zero, List.set_cons_succ]
          refine wpAnyH_take (i := 9) (v := ?_) (by simp only [List.getElem?_toArray, List.getElem?_cons_succ, List.getElem?_cons_zero]; rfl) (by kernel_rfl) (by kernel_rfl) (by kernel_rfl) (by exact fun _ _ _ h => h) (Or.inl ⟨by rfl, ?_⟩) (by assumption) ?_
          rotate_left
          · intro w' hSw; go_simp; try with_reducible rfl
          try simp only [Act.put, List.setIfInBounds_toArray, List.set_cons_zero, List.set_cons_succ]
          refine wpAnyH_take (i := 10) (v := ?_) (by simp only [List.getElem?_toArray, List.getElem?_cons_succ, List.getElem?_cons_zero]; rfl) (by kernel_rfl) (by kernel_rfl) (by kernel_rfl) (by exact fun _ _ _ h => h) (Or.inl ⟨by rfl, ?_⟩) (by assumption) ?_
          rotate_left
          · intro w' hSw; go_simp; try with_reducible rfl
          try simp only [Act.put, List.setIfInBounds_toArray, List.set_cons_zero, List.set_cons_succ]
          refine wpAnyH_done (by kernel_rfl) ?_ _
          clear hH4 hS1 hHeld c1'
          have c1' := HNo.out.c1
          have c0' := HNo.out.c0
          have hf := HNo.out.f
          go_wp2_with fail
          refine wp_region_until 13 (S := (fun w' => w'.cell? ⟨nb, 1, none⟩ = some (.slice oa ls.length oc) ∧ w'.cell? ⟨nb, 0, none⟩ = some (.slice (some ⟨gS, 0, none⟩) S cS))) (by kernel_rfl) ?_ (fun hHeld => ?_)
          · exact ⟨c1', c0'⟩
          refine wpAnyU_take (i := 0) (v := ?_) (by simp only [List.getElem?_toArray, List.getElem?_cons_zero]; rfl) (by kernel_rfl) (by kernel_rfl) (by kernel_rfl) (by kernel_rfl) (by kernel_rfl) (by exact fun _ _ _ h => h) (Or.inl ⟨by rfl, ?_⟩) (by assumption) ?_
          rotate_left
          · intro w' hSw; obtain ⟨e0, e1⟩ := hSw
            go_simp; try with_reducible rfl
          try simp only [Act.put, List.setIfInBounds_toArray, List.set_cons_zero, List.set_cons_succ]
          refine wpAnyU_take (i := 1) (v := ?_) (by simp only [List.getElem?_toArray, List.getElem?_cons_succ, List.getElem?_cons_zero]; rfl) (by kernel_rfl) (by kernel_rfl) (by kernel_rfl) (by kernel_rfl) (by kernel_rfl) (by exact fun _ _ _ h => h) (Or.inl ⟨by rfl, ?_⟩) (by assumption) ?_
          rotate_left
          · intro w' hSw; obtain ⟨e0, e1⟩ := hSw
            go_simp; try with_reducible rfl
          try simp only [Act.put, List.setIfInBounds_toArray, List.set_cons_zero, List.set_cons_succ]
          refine wpAnyU_take (i := 2) (v := ?_) (by simp only [List.getElem?_toArray, List.getElem?_cons_succ, List.getElem?_cons_zero]; rfl) (by kernel_rfl) (by kernel_rfl) (by kernel_rfl) (by kernel_rfl) (by kernel_rfl) (by exact fun _ _ _ h => h) (Or.inl ⟨by rfl, ?_⟩) (by assumption) ?_
          rotate_left
          · intro w' hSw; obtain ⟨e0, e1⟩ := hSw
            go_simp; try with_reducible rfl
          try simp only [Act.put, List.setIfInBounds_toArray, List.set_cons_zero, List.set_cons_succ]
          refine wpAnyU_take (i := 3) (v := ?_) (by simp only [List.getElem?_toArray, List.getElem?_cons_succ, List.getElem?_cons_zero]; rfl) (by kernel_rfl) (by kernel_rfl) (by kernel_rfl) (by kernel_rfl) (by kernel_rfl) (by exact fun _ _ _ h => h) (Or.inl ⟨by rfl, ?_⟩) (by assumption) ?_
          rotate_left
          · intro w' hSw; obtain ⟨e0, e1⟩ := hSw
            go_simp; try with_reducible rfl
          try simp only [Act.put, List.setIfInBounds_toArray, List.set_cons_zero, List.set_cons_succ]
          refine wpAnyU_take (i := 6) (v := ?_) (by simp only [List.getElem?_toArray, List.getElem?_cons_succ, List.getElem?_cons_zero]; rfl) (by kernel_rfl) (by kernel_rfl) (by kernel_rfl) (by kernel_rfl) (by kernel_rfl) (by exact fun _ _ _ h => h) (Or.inl ⟨by rfl, ?_⟩) (by assumption) ?_
          rotate_left
          · intro w' hSw; obtain ⟨e0, e1⟩ := hSw
            go_simp; try with_reducible rfl
          try simp only [Act.put, List.setIfInBounds_toArray, List.set_cons_zero, List.set_cons_succ]
          refine wpAnyU_take (i := 7) (v := ?_) (by simp only [List.getElem?_toArray, List.getElem?_cons_succ, List.getElem?_cons_zero]; rfl) (by kernel_rfl) (by kernel_rfl) (by kernel_rfl) (by kernel_rfl) (by kernel_rfl) (by exact fun _ _ _ h => h) (Or.inl ⟨by rfl, ?_⟩) (by assumption) ?_
          rotate_left
          · intro w' hSw; obtain ⟨e0, e1⟩ := hSw
            go_simp; try with_reducible rfl
          try simp only [Act.put, List.setIfInBounds_toArray, List.set_cons_zero, List.set_cons_succ]
          refine wpAnyU_take (i := 8) (v := ?_) (by simp only [List.getElem?_toArray, List.getElem?_cons_succ, List.getElem?_cons_zero]; rfl) (by kernel_rfl) (by kernel_rfl) (by kernel_rfl) (by kernel_rfl) (by kernel_rfl) (by exact fun _ _ _ h => h) (Or.inl ⟨by rfl, ?_⟩) (by assumption) ?_
          rotate_left
          · intro w' hSw; obtain ⟨e0, e1⟩ := hSw
            go_simp; try with_reducible rfl
          try simp only [Act.put, List.setIfInBounds_toArray, List.set_cons_zero, List.set_cons_succ]
          refine wpAnyU_ready (rs := [4]) (by kernel_rfl) (by simp) ?_
          refine AllReadyU.cons (by simp only [List.getElem?_toArray, List.getElem?_cons_succ, List.getElem?_cons_zero]; rfl) (fun K hK => ?_) AllReadyU.nil
          go_simp
          go_at_call 93
          refine (l1Num_any (k : Int) wo.drew (by omega) (by omega)).mono ?_
          rintro e u1 ⟨rfl, hw⟩
          have hb : Below wo.heap.size wo u1 := by obtain ⟨m1, rfl⟩ := hw; exact (Below.refl _ _).drew.trans (show Below wo.drew.heap.size wo.drew (wo.drew.drewN m1) from Dr.below ⟨m1, rfl⟩)
          have HN1 := Lib.hid (HNo.out.later HV.out hlt hb)
          clear hb hw
          have hS2 : (u1.cell? ⟨nb, 1, none⟩ = some (.slice oa ls.length oc) ∧ u1.cell? ⟨nb, 0, none⟩ = some (.slice (some ⟨gS, 0, none⟩) S cS)) := ⟨HN1.out.c1, HN1.out.c0⟩
          go_wp2_with fail
          refine hK.out _ _ hS2 (fun hH4 => ?_)
          clear hK K
          try simp only [Act.put, List.setIfInBounds_toArray, List.set_cons_zero, List.set_cons_succ]
          refine wpAnyU_take (i := 5) (v := ?_) (by simp only [List.getElem?_toArray, List.getElem?_cons_succ, List.getElem?_cons_zero]; rfl) (by kernel_rfl) (by kernel_rfl) (by kernel_rfl) (by kernel_rfl) (by kernel_rfl) (by exact fun _ _ _ h => h) (Or.inl ⟨by rfl, ?_⟩) (by assumption) ?_
          rotate_left
          · intro w' hSw; obtain ⟨e0, e1⟩ := hSw
            go_simp; try with_reducible rfl
          try simp only [Act.put, List.setIfInBounds_toArray, List.set_cons_zero, List.set_cons_succ]
          refine wpAnyU_ready (rs := [9]) (by kernel_rfl) (by simp) ?_
          refine AllReadyU.cons (by simp only [List.getElem?_toArray, List.getElem?_cons_succ, List.getElem?_cons_zero]; rfl) (fun K hK => ?_) AllReadyU.nil
          go_simp
          go_at_call 92
          refine (line_any b (m + 2) v (nmX k) S u1 HN1.out.cur.1 HN1.out.cur.2.1 (by omega) hD2 hN8).mono ?_
          rintro e u2 ⟨⟨l, sv, rv, rfl, hln, hok, hsr, hrr, hap⟩, hp⟩
          obtain ⟨sa2, sc2, rfl⟩ := own_shape hsr
          obtain ⟨ra2, rc2, rfl⟩ := own_shape hrr
          have HN2 := Lib.hid (HN1.out.cur' hlt hp)
          have HLn := Lib.hid hln
          have HOk := Lib.hid (anyLn_good hok (by rw [hln]; exact nmX_size k (by omega)) hN8)
          have HSr := Lib.hid hsr
          have HRr := Lib.hid hrr
          have hla : ∀ q, (Value.slice oa ls.length oc).ownBlock = some q → q < u1.heap.size := fun q hq => (HN1.out.own.2.1.lt q hq).2
          have hnxu : nb < u1.heap.size ∧ xb < u1.heap.size := by have := HN1.out.lt; omega
          have hBu : B ≤ u1.heap.size := by
            rcases HN1.out.xs.2 with ⟨hv, h0⟩ | ⟨g, cap, cur, hv, _⟩
            · omega
            · have := HN1.out.xs.lt g (by rw [hv]; rfl); omega
          have hu12 := hp.2.2.size
          have hS3 : (u2.cell? ⟨nb, 1, none⟩ = some (.slice oa ls.length oc) ∧ u2.cell? ⟨nb, 0, none⟩ = some (.slice (some ⟨gS, 0, none⟩) S cS)) := ⟨HN2.out.c1, HN2.out.c0⟩
          clear hp hln hok hsr hrr hap
          go_wp2_with fail
          refine hK.out _ _ hS3 (fun hH9 => ?_)
          clear hK K
          try simp only [Act.put, List.setIfInBounds_toArray, List.set_cons_zero, List.set_cons_succ]
          refine wpAnyU_ready (rs := [10]) (by kernel_rfl) (by simp) ?_
          refine AllReadyU.cons (by simp only [List.getElem?_toArray, List.getElem?_cons_succ, List.getElem?_cons_zero]; rfl) (fun K hK => ?_) AllReadyU.nil
          go_simp
          have HNA := Lib.hid (HN2.out.alloc (.cells #[.string (nmX k), .slice sa2 l.stops.length sc2, .slice ra2 l.runs.length rc2] 36))
          have hSA : ((u2.alloc (.cells #[.string (nmX k), .slice sa2 l.stops.length sc2, .slice ra2 l.runs.length rc2] 36)).cell? ⟨nb, 1, none⟩ = some (.slice oa ls.length oc) ∧ (u2.alloc (.cells #[.string (nmX k), .slice sa2 l.stops.length sc2, .slice ra2 l.runs.length rc2] 36)).cell? ⟨nb, 0, none⟩ = some (.slice (some ⟨gS, 0, none⟩) S cS)) := ⟨HNA.out.c1, HNA.out.c0⟩
          have HSr2 := Lib.hid (HSr.out.alloc (.cells #[.string (nmX k), .slice sa2 l.stops.length sc2, .slice ra2 l.runs.length rc2] 36))
          have HRr2 := Lib.hid (HRr.out.alloc (.cells #[.string (nmX k), .slice sa2 l.stops.length sc2, .slice ra2 l.runs.length rc2] 36))
          refine hK.out _ _ hSA (fun hH10 => ?_)
          clear hK K
          try simp only [Act.put, List.setIfInBounds_toArray, List.set_cons_zero, List.set_cons_succ]
          refine wpAnyU_ready (rs := [11]) (by kernel_rfl) (by simp) ?_
          refine AllReadyU.cons (by simp only [List.getElem?_toArray, List.getElem?_cons_succ, List.getElem?_cons_zero]; rfl) (fun K hK => ?_) AllReadyU.nil
          obtain ⟨v', u3, hrun, HL3, b1, b0, hf, g3, c3, hv3⟩ := HNA.out.appL HV.out hlt (news5 u2 (.string (nmX k)) (.slice sa2 l.stops.length sc2) (.slice ra2 l.runs.length rc2)) HLn.out HSr2.out HRr2.out hBu (by simp; omega) hnxu hla (by omega) HOk.out
          subst hv3
          have HN3 := Lib.hid HL3
          have hS4 : (u3.cell? ⟨nb, 1, none⟩ = some (.slice oa ls.length oc) ∧ u3.cell? ⟨nb, 0, none⟩ = some (.slice (some ⟨gS, 0, none⟩) S cS)) := ⟨b1, b0⟩
          refine step_append_run rfl (.tmp 89) (.tmp 98) 25 rfl rfl rfl hrun ?_
          clear hrun HL3
          refine hK.out _ _ hS4 (fun hH11 => ?_)
          clear hK K
          try simp only [Act.put, List.setIfInBounds_toArray, List.set_cons_zero, List.set_cons_succ]
          refine wpAnyU_take (i := 12) (v := ?_) (by simp only [List.getElem?_toArray, List.getElem?_cons_succ, List.getElem?_cons_zero]; rfl) (by kernel_rfl) (by kernel_rfl) (by kernel_rfl) (by kernel_rfl) (by kernel_rfl) (by exact fun _ _ _ h => h) (Or.inl ⟨by rfl, ?_⟩) (by assumption) ?_
          rotate_left
          · intro w' hSw; obtain ⟨e0, e1⟩ := hSw
            go_simp; try with_reducible rfl
          try simp only [Act.put, List.setIfInBounds_toArray, List.set_cons_zero, List.set_cons_succ]
          refine wpAnyU_ready (rs := [13]) (by kernel_rfl) (by simp) ?_
          refine AllReadyU.last (by simp only [List.getElem?_toArray, List.getElem?_cons_succ, List.getElem?_cons_zero]; rfl) (by kernel_rfl) (fun K hK => ?_)
          go_simp
          refine hK.out _ _ ?_
          clear hK K
          try simp only [Act.put, List.setIfInBounds_toArray, List.set_cons_zero, List.set_cons_succ]
          refine wpAnyU_done (by kernel_rfl) ?_ _
          clear hH4 hH9 hH10 hH11 hS2 hS3 hSA hS4 hHeld b1 b0 hf
          obtain ⟨u4, hu4⟩ : ∃ u4 : World, u4 = u3.setCell ⟨nb, 1, none⟩ (.slice (some ⟨g3, 0, none⟩) (ls.length + 1) c3) := ⟨_, rfl⟩
          rw [← hu4] at HN3 ⊢
          clear hu4
          go_wp2_with fail
          go_roundw
          case rel => exact ⟨k + 1, ls ++ [l], vs ++ [(.slice sa2 l.stops.length sc2, .slice ra2 l.runs.length rc2)], some ⟨g3, 0, none⟩, c3, m + 42, by omega, by go_num, by simp; omega, by omega, by rw [List.length_append]; exact HN3⟩
          case measure => first | (simp [RowKit.intOf]; done) | (simp [RowKit.intOf]; omega)
        · clear hK K
          try simp only [Act.put, List.setIfInBounds_toArray, List.set_cons_zero, List.set_cons_succ]
          refine wpAnyH_take (i := 5) (v := ?_) (by simp only [List.getElem?_toArray, List.getElem?_cons_succ, List.getElem?_cons_zero]; rfl) (by kernel_rfl) (by kernel_rfl) (by kernel_rfl) (by exact fun _ _ _ h => h) (Or.inl ⟨by rfl, ?_⟩) (by assumption) ?_
          rotate_left
          · intro w' hSw; go_simp; try with_reducible rfl
          try simp only [Act.put, List.setIfInBounds_toArray, List.set_cons_zero, List.set_cons_succ]
          refine wpAnyH_take (i := 6) (v := ?_) (by simp only [List.getElem?_toArray, List.getElem?_cons_succ, List.getElem?_cons_zero]; rfl) (by kernel_rfl) (by kernel_rfl) (by kernel_rfl) (by exact fun _ _ _ h => h) (Or.inl ⟨by rfl, ?_⟩) (by assumption) ?_
          rotate_left
          · intro w' hSw; go_simp; try with_reducible rfl
          try simp only [Act.put, List.setIfInBounds_toArray, List.set_cons_zero, List.set_cons_succ]
          refine wpAnyH_take (i := 7) (v := ?_) (by simp only [List.getElem?_toArray, List.getElem?_cons_succ, List.getElem?_cons_zero]; rfl) (by kernel_rfl) (by kernel_rfl) (by kernel_rfl) (by exact fun _ _ _ h => h) (Or.inl ⟨by rfl, ?_⟩) (by assumption) ?_
          rotate_left
          · intro w' hSw; go_simp; try with_reducible rfl
          try simp only [Act.put, List.setIfInBounds_toArray, List.set_cons_zero, List.set_cons_succ]
          refine wpAnyH_take (i := 8) (v := undef) (by simp only [List.getElem?_toArray, List.getElem?_cons_succ, List.getElem?_cons_zero]; rfl) (by kernel_rfl) (by kernel_rfl) (by kernel_rfl) (by exact fun _ _ _ h => h) (Or.inr ⟨by rfl, rfl⟩) (by assumption) ?_
          try simp only [Act.put, List.setIfInBounds_toArray, List.set_cons_zero, List.set_cons_succ]
          refine wpAnyH_take (i := 9) (v := undef) (by simp only [List.getElem?_toArray, List.getElem?_cons_succ, List.getElem?_cons_zero]; rfl) (by kernel_rfl) (by kernel_rfl) (by kernel_rfl) (by exact fun _ _ _ h => h) (Or.inr ⟨by rfl, rfl⟩) (by assumption) ?_
          try simp only [Act.put, List.setIfInBounds_toArray, List.set_cons_zero, List.set_cons_succ]
          refine wpAnyH_take (i := 10) (v := ?_) (by simp only [List.getElem?_toArray, List.getElem?_cons_succ, List.getElem?_cons_zero]; rfl) (by kernel_rfl) (by kernel_rfl) (by kernel_rfl) (by exact fun _ _ _ h => h) (Or.inl ⟨by rfl, ?_⟩) (by assumption) ?_
          rotate_left
          · intro w' hSw; go_simp; try with_reducible rfl
          try simp only [Act.put, List.setIfInBounds_toArray, List.set_cons_zero, List.set_cons_succ]
          refine wpAnyH_done (by kernel_rfl) ?_ _
          clear hH4 hS1 hHeld c1'
          obtain ⟨wf, rfl⟩ : ∃ wf : World, wf = wo := ⟨_, rfl⟩
          obtain ⟨ssf, hssf⟩ : ∃ ssf, d.stops = ssf := ⟨_, rfl⟩
          rw [hssf] at HNo
          have hSf : ssf.length = S := by rw [← hssf]; exact hS
          obtain ⟨lsf, rfl⟩ : ∃ lsf, lsf = ls := ⟨_, rfl⟩
          obtain ⟨Lf, hLf⟩ : ∃ Lf, lsf.length = Lf := ⟨_, rfl⟩
          rw [hLf] at HNo hcL
          obtain ⟨oaf, rfl⟩ : ∃ oaf, oaf = oa := ⟨_, rfl⟩
          obtain ⟨ocf, rfl⟩ : ∃ ocf, ocf = oc := ⟨_, rfl⟩
          have HAf := HNo
          clear HNo hssf
          have HF := Lib.hid (HAf.out.fin HV.out hlt)
          have g0 := HAf.out.c0
          have g1 := HAf.out.c1
          obtain ⟨z0, z1, zl, zf⟩ := HAf.out.z
          have hok := HAf.out.ok
          have hnw := HAf.out.hy
          have hcm : m + 2 ≤ n + 700 := by omega
          go_wp2_with fail
          have hE : ∃ (d : NetD) (a : Option Addr) (c : Nat) (oa : Option Addr) (oc u : Nat), Ending.returned (Value.agg #[.slice (some ⟨gS, 0, none⟩) S cS, .slice oaf Lf ocf]) = .returned (.agg #[.slice a d.stops.length c, .slice oa d.lines.length oc]) ∧ (d.stops.length ≤ 8 ∧ ∀ s ∈ d.stops, s.size ≤ 20) ∧ d.lines.length ≤ 12 ∧ (∀ l ∈ d.lines, AnyLn l) ∧ NetL (w.heap.size + 1) u ((wf.setCell ⟨w.heap.size, 0, none⟩ (.slice (some ⟨gS, 0, none⟩) S cS)).setCell ⟨w.heap.size, 1, none⟩ (.slice oaf Lf ocf)) (.agg #[.slice a d.stops.length c, .slice oa d.lines.length oc]) d ∧ u ≤ ((wf.setCell ⟨w.heap.size, 0, none⟩ (.slice (some ⟨gS, 0, none⟩) S cS)).setCell ⟨w.heap.size, 1, none⟩ (.slice oaf Lf ocf)).heap.size := ⟨⟨ssf, lsf⟩, some ⟨gS, 0, none⟩, cS, oaf, ocf, wf.heap.size, (by dsimp only; rw [hSf, hLf]), hok.1, hok.2.1, hok.2.2.1, (by dsimp only; rw [hSf, hLf]; exact HF.out.1), by simp [World.setCell]⟩
          exact bodyPost_ret (v := .agg #[.slice (some ⟨gS, 0, none⟩) S cS, .slice oaf Lf ocf]) (by simp only [results, Try.results41]; go_simp) rfl ⟨by first | exact hE | simpa only [exists_and_left, exists_and_right] using hE, curPost_mono HF.out.2.1 hcm⟩
      · have hkI : ¬ (k : Int) < 7 := by omega
        go_wp2_with fail
        refine wp_region_held_drew (S := (fun w' => w'.cell? ⟨nb, 1, none⟩ = some (.slice oa ls.length oc))) (by kernel_rfl) ?_ (fun hHeld => ?_)
        · exact c1'
        refine wpAnyH_take (i := 0) (v := ?_) (by simp only [List.getElem?_toArray, List.getElem?_cons_zero]; rfl) (by kernel_rfl) (by kernel_rfl) (by kernel_rfl) (by exact fun _ _ _ h => h) (Or.inl ⟨by rfl, ?_⟩) (by assumption) ?_
        rotate_left
        · intro w' hSw; go_simp; try with_reducible rfl
        try simp only [Act.put, List.setIfInBounds_toArray, List.set_cons_zero, List.set_cons_succ]
        refine wpAnyH_take (i := 1) (v := ?_) (by simp only [List.getElem?_toArray, List.getElem?_cons_succ, List.getElem?_cons_zero]; rfl) (by kernel_rfl) (by kernel_rfl) (by kernel_rfl) (by exact fun _ _ _ h => h) (Or.inl ⟨by rfl, ?_⟩) (by assumption) ?_
        rotate_left
        · intro w' hSw; go_simp; try with_reducible rfl
        try simp only [Act.put, List.setIfInBounds_toArray, List.set_cons_zero, List.set_cons_succ]
        refine wpAnyH_take (i := 2) (v := ?_) (by simp only [List.getElem?_toArray, List.getElem?_cons_succ, List.getElem?_cons_zero]; rfl) (by kernel_rfl) (by kernel_rfl) (by kernel_rfl) (by exact fun _ _ _ h => h) (Or.inl ⟨by rfl, ?_⟩) (by assumption) ?_
        rotate_left
        · intro w' hSw; go_simp; try with_reducible rfl
        try simp only [Act.put, List.setIfInBounds_toArray, List.set_cons_zero, List.set_cons_succ]
        refine wpAnyH_take (i := 3) (v := ?_) (by simp only [List.getElem?_toArray, List.getElem?_cons_succ, List.getElem?_cons_zero]; rfl) (by kernel_rfl) (by kernel_rfl) (by kernel_rfl) (by exact fun _ _ _ h => h) (Or.inl ⟨by rfl, ?_⟩) (by assumption) ?_
        rotate_left
        · intro w' hSw; go_simp; try with_reducible rfl
        try simp only [Act.put, List.setIfInBounds_toArray, List.set_cons_zero, List.set_cons_succ]
        refine wpAnyH_ready (rs := [4]) (by kernel_rfl) (by simp) ?_
        refine AllReadyH.cons (by simp only [List.getElem?_toArray, List.getElem?_cons_succ, List.getElem?_cons_zero]; rfl) (fun K hK => ?_) AllReadyH.nil
        go_simp
        have HNd := Lib.hid HN.out.drew
        go_at_call 42
        refine (pick_any b m v 2 _ HNd.out.cur.1 HNd.out.cur.2.1 (by omega) (by omega)).mono ?_
        rintro e wo ⟨⟨r, rfl, hr0, hr1⟩, hp⟩
        have hr2 := hr1 (by omega)
        have hw5 : IntKind.i64.wrap (5 + r) = 5 + r := IntWalk.i64_in _ (by omega)
        have HNo := Lib.hid (HNd.out.cur' hlt hp)
        have hS1 : wo.cell? ⟨nb, 1, none⟩ = some (.slice oa ls.length oc) := HNo.out.c1
        clear hp hr1 HN HNd
        go_wp2_with fail
        refine hK.out _ _ hS1 (fun hH4 => ?_)
        by_cases hcL : (ls.length : Int) < 5 + r
        · clear hK K
          try simp only [Act.put, List.setIfInBounds_toArray, List.set_cons_zero, List.set_cons_succ]
          refine wpAnyH_take (i := 5) (v := ?_) (by simp only [List.getElem?_toArray, List.getElem?_cons_succ, List.getElem?_cons_zero]; rfl) (by kernel_rfl) (by kernel_rfl) (by kernel_rfl) (by exact fun _ _ _ h => h) (Or.inl ⟨by rfl, ?_⟩) (by assumption) ?_
          rotate_left
          · intro w' hSw; go_simp; try with_reducible rfl
          try simp only [Act.put, List.setIfInBounds_toArray, List.set_cons_zero, List.set_cons_succ]
          refine wpAnyH_take (i := 6) (v := ?_) (by simp only [List.getElem?_toArray, List.getElem?_cons_succ, List.getElem?_cons_zero]; rfl) (by kernel_rfl) (by kernel_rfl) (by kernel_rfl) (by exact fun _ _ _ h => h) (Or.inl ⟨by rfl, ?_⟩) (by assumption) ?_
          rotate_left
          · intro w' hSw; go_simp; try with_reducible rfl
          try simp only [Act.put, List.setIfInBounds_toArray, List.set_cons_zero, List.set_cons_succ]
          refine wpAnyH_take (i := 7) (v := ?_) (by simp only [List.getElem?_toArray, List.getElem?_cons_succ, List.getElem?_cons_zero]; rfl) (by kernel_rfl) (by kernel_rfl) (by kernel_rfl) (by exact fun _ _ _ h => h) (Or.inl ⟨by rfl, ?_⟩) (by assumption) ?_
          rotate_left
          · intro w' hSw; go_simp; try with_reducible rfl
          try simp only [Act.put, List.setIfInBounds_toArray, List.set_cons_zero, List.set_cons_succ]
          refine wpAnyH_take (i := 8) (v := ?_) (by simp only [List.getElem?_toArray, List.getElem?_cons_succ, List.getElem?_cons_zero]; rfl) (by kernel_rfl) (by kernel_rfl) (by kernel_rfl) (by exact fun _ _ _ h => h) (Or.inl ⟨by rfl, ?_⟩) (by assumption) ?_
          rotate_left
          · intro w' hSw; go_simp; try with_reducible rfl
          try simp only [Act.put, List.setIfInBounds_toArray, List.set_cons_zero, List.set_cons_succ]
          refine wpAnyH_take (i := 9) (v := ?_) (by simp only [List.getElem?_toArray, List.getElem?_cons_succ, List.getElem?_cons_zero]; rfl) (by kernel_rfl) (by kernel_rfl) (by kernel_rfl) (by exact fun _ _ _ h => h) (Or.inl ⟨by rfl, ?_⟩) (by assumption) ?_
          rotate_left
          · intro w' hSw; go_simp; try with_reducible rfl
          try simp only [Act.put, List.setIfInBounds_toArray, List.set_cons_zero, List.set_cons_succ]
          refine wpAnyH_take (i := 10) (v := ?_) (by simp only [List.getElem?_toArray, List.getElem?_cons_succ, List.getElem?_cons_zero]; rfl) (by kernel_rfl) (by kernel_rfl) (by kernel_rfl) (by exact fun _ _ _ h => h) (Or.inl ⟨by rfl, ?_⟩) (by assumption) ?_
          rotate_left
          · intro w' hSw; go_simp; try with_reducible rfl
          try simp only [Act.put, List.setIfInBounds_toArray, List.set_cons_zero, List.set_cons_succ]
          refine wpAnyH_done (by kernel_rfl) ?_ _
          clear hH4 hS1 hHeld c1'
          obtain ⟨wf, rfl⟩ : ∃ wf : World, wf = wo := ⟨_, rfl⟩
          obtain ⟨ssf, hssf⟩ : ∃ ssf, d.stops = ssf := ⟨_, rfl⟩
          rw [hssf] at HNo
          have hSf : ssf.length = S := by rw [← hssf]; exact hS
          obtain ⟨lsf, rfl⟩ : ∃ lsf, lsf = ls := ⟨_, rfl⟩
          obtain ⟨Lf, hLf⟩ : ∃ Lf, lsf.length = Lf := ⟨_, rfl⟩
          rw [hLf] at HNo hcL
          obtain ⟨oaf, rfl⟩ : ∃ oaf, oaf = oa := ⟨_, rfl⟩
          obtain ⟨ocf, rfl⟩ : ∃ ocf, ocf = oc := ⟨_, rfl⟩
          have HAf := HNo
          clear HNo hssf
          have HF := Lib.hid (HAf.out.fin HV.out hlt)
          have g0 := HAf.out.c0
          have g1 := HAf.out.c1
          obtain ⟨z0, z1, zl, zf⟩ := HAf.out.z
          have hok := HAf.out.ok
          have hnw := HAf.out.hy
          have hcm : m + 2 ≤ n + 700 := by omega
          go_wp2_with fail
          have hE : ∃ (d : NetD) (a : Option Addr) (c : Nat) (oa : Option Addr) (oc u : Nat), Ending.returned (Value.agg #[.slice (some ⟨gS, 0, none⟩) S cS, .slice oaf Lf ocf]) = .returned (.agg #[.slice a d.stops.length c, .slice oa d.lines.length oc]) ∧ (d.stops.length ≤ 8 ∧ ∀ s ∈ d.stops, s.size ≤ 20) ∧ d.lines.length ≤ 12 ∧ (∀ l ∈ d.lines, AnyLn l) ∧ NetL (w.heap.size + 1) u ((wf.setCell ⟨w.heap.size, 0, none⟩ (.slice (some ⟨gS, 0, none⟩) S cS)).setCell ⟨w.heap.size, 1, none⟩ (.slice oaf Lf ocf)) (.agg #[.slice a d.stops.length c, .slice oa d.lines.length oc]) d ∧ u ≤ ((wf.setCell ⟨w.heap.size, 0, none⟩ (.slice (some ⟨gS, 0, none⟩) S cS)).setCell ⟨w.heap.size, 1, none⟩ (.slice oaf Lf ocf)).heap.size := ⟨⟨ssf, lsf⟩, some ⟨gS, 0, none⟩, cS, oaf, ocf, wf.heap.size, (by dsimp only; rw [hSf, hLf]), hok.1, hok.2.1, hok.2.2.1, (by dsimp only; rw [hSf, hLf]; exact HF.out.1), by simp [World.setCell]⟩
          exact bodyPost_ret (v := .agg #[.slice (some ⟨gS, 0, none⟩) S cS, .slice oaf Lf ocf]) (by simp only [results, Try.results41]; go_simp) rfl ⟨by first | exact hE | simpa only [exists_and_left, exists_and_right] using hE, curPost_mono HF.out.2.1 hcm⟩
        · clear hK K
          try simp only [Act.put, List.setIfInBounds_toArray, List.set_cons_zero, List.set_cons_succ]
          refine wpAnyH_take (i := 5) (v := ?_) (by simp only [List.getElem?_toArray, List.getElem?_cons_succ, List.getElem?_cons_zero]; rfl) (by kernel_rfl) (by kernel_rfl) (by kernel_rfl) (by exact fun _ _ _ h => h) (Or.inl ⟨by rfl, ?_⟩) (by assumption) ?_
          rotate_left
          · intro w' hSw; go_simp; try with_reducible rfl
          try simp only [Act.put, List.setIfInBounds_toArray, List.set_cons_zero, List.set_cons_succ]
          refine wpAnyH_take (i := 6) (v := ?_) (by simp only [List.getElem?_toArray, List.getElem?_cons_succ, List.getElem?_cons_zero]; rfl) (by kernel_rfl) (by kernel_rfl) (by kernel_rfl) (by exact fun _ _ _ h => h) (Or.inl ⟨by rfl, ?_⟩) (by assumption) ?_
          rotate_left
          · intro w' hSw; go_simp; try with_reducible rfl
          try simp only [Act.put, List.setIfInBounds_toArray, List.set_cons_zero, List.set_cons_succ]
          refine wpAnyH_take (i := 7) (v := ?_) (by simp only [List.getElem?_toArray, List.getElem?_cons_succ, List.getElem?_cons_zero]; rfl) (by kernel_rfl) (by kernel_rfl) (by kernel_rfl) (by exact fun _ _ _ h => h) (Or.inl ⟨by rfl, ?_⟩) (by assumption) ?_
          rotate_left
          · intro w' hSw; go_simp; try with_reducible rfl
          try simp only [Act.put, List.setIfInBounds_toArray, List.set_cons_zero, List.set_cons_succ]
          refine wpAnyH_take (i := 8) (v := undef) (by simp only [List.getElem?_toArray, List.getElem?_cons_succ, List.getElem?_cons_zero]; rfl) (by kernel_rfl) (by kernel_rfl) (by kernel_rfl) (by exact fun _ _ _ h => h) (Or.inr ⟨by rfl, rfl⟩) (by assumption) ?_
          try simp only [Act.put, List.setIfInBounds_toArray, List.set_cons_zero, List.set_cons_succ]
          refine wpAnyH_take (i := 9) (v := undef) (by simp only [List.getElem?_toArray, List.getElem?_cons_succ, List.getElem?_cons_zero]; rfl) (by kernel_rfl) (by kernel_rfl) (by kernel_rfl) (by exact fun _ _ _ h => h) (Or.inr ⟨by rfl, rfl⟩) (by assumption) ?_
          try simp only [Act.put, List.setIfInBounds_toArray, List.set_cons_zero, List.set_cons_succ]
          refine wpAnyH_take (i := 10) (v := ?_) (by simp only [List.getElem?_toArray, List.getElem?_cons_succ, List.getElem?_cons_zero]; rfl) (by kernel_rfl) (by kernel_rfl) (by kernel_rfl) (by exact fun _ _ _ h => h) (Or.inl ⟨by rfl, ?_⟩) (by assumption) ?_
          rotate_left
          · intro w' hSw; go_simp; try with_reducible rfl
          try simp only [Act.put, List.setIfInBounds_toArray, List.set_cons_zero, List.set_cons_succ]
          refine wpAnyH_done (by kernel_rfl) ?_ _
          clear hH4 hS1 hHeld c1'
          obtain ⟨wf, rfl⟩ : ∃ wf : World, wf = wo := ⟨_, rfl⟩
          obtain ⟨ssf, hssf⟩ : ∃ ssf, d.stops = ssf := ⟨_, rfl⟩
          rw [hssf] at HNo
          have hSf : ssf.length = S := by rw [← hssf]; exact hS
          obtain ⟨lsf, rfl⟩ : ∃ lsf, lsf = ls := ⟨_, rfl⟩
          obtain ⟨Lf, hLf⟩ : ∃ Lf, lsf.length = Lf := ⟨_, rfl⟩
          rw [hLf] at HNo hcL
          obtain ⟨oaf, rfl⟩ : ∃ oaf, oaf = oa := ⟨_, rfl⟩
          obtain ⟨ocf, rfl⟩ : ∃ ocf, ocf = oc := ⟨_, rfl⟩
          have HAf := HNo
          clear HNo hssf
          have HF := Lib.hid (HAf.out.fin HV.out hlt)
          have g0 := HAf.out.c0
          have g1 := HAf.out.c1
          obtain ⟨z0, z1, zl, zf⟩ := HAf.out.z
          have hok := HAf.out.ok
          have hnw := HAf.out.hy
          have hcm : m + 2 ≤ n + 700 := by omega
          go_wp2_with fail
          have hE : ∃ (d : NetD) (a : Option Addr) (c : Nat) (oa : Option Addr) (oc u : Nat), Ending.returned (Value.agg #[.slice (some ⟨gS, 0, none⟩) S cS, .slice oaf Lf ocf]) = .returned (.agg #[.slice a d.stops.length c, .slice oa d.lines.length oc]) ∧ (d.stops.length ≤ 8 ∧ ∀ s ∈ d.stops, s.size ≤ 20) ∧ d.lines.length ≤ 12 ∧ (∀ l ∈ d.lines, AnyLn l) ∧ NetL (w.heap.size + 1) u ((wf.setCell ⟨w.heap.size, 0, none⟩ (.slice (some ⟨gS, 0, none⟩) S cS)).setCell ⟨w.heap.size, 1, none⟩ (.slice oaf Lf ocf)) (.agg #[.slice a d.stops.length c, .slice oa d.lines.length oc]) d ∧ u ≤ ((wf.setCell ⟨w.heap.size, 0, none⟩ (.slice (some ⟨gS, 0, none⟩) S cS)).setCell ⟨w.heap.size, 1, none⟩ (.slice oaf Lf ocf)).heap.size := ⟨⟨ssf, lsf⟩, some ⟨gS, 0, none⟩, cS, oaf, ocf, wf.heap.size, (by dsimp only; rw [hSf, hLf]), hok.1, hok.2.1, hok.2.2.1, (by dsimp only; rw [hSf, hLf]; exact HF.out.1), by simp [World.setCell]⟩
          exact bodyPost_ret (v := .agg #[.slice (some ⟨gS, 0, none⟩) S cS, .slice oaf Lf ocf]) (by simp only [results, Try.results41]; go_simp) rfl ⟨by first | exact hE | simpa only [exists_and_left, exists_and_right] using hE, curPost_mono HF.out.2.1 hcm⟩
  · have n0 : ¬ (r = 0) := by omega
    have n1 : ¬ (r = 1) := by omega
    have n2 : ¬ (r = 2) := by omega
    have n3 : ¬ (r = 3) := by omega
    have n4 : ¬ (r = 4) := by omega
    have n5 : ¬ (r = 5) := by omega
    have n6 : ¬ (r = 6) := by omega
    clear h7
    go_upto_region 24 with fail
    obtain ⟨we, rfl⟩ : ∃ we : World, we = w5 := ⟨_, rfl⟩
    obtain ⟨lse, hlse⟩ : ∃ lse, d.lines = lse := ⟨_, rfl⟩
    obtain ⟨sse, hsse⟩ : ∃ sse, d.stops = sse := ⟨_, rfl⟩
    obtain ⟨xe, rfl⟩ : ∃ xe, xe = x := ⟨_, rfl⟩
    rw [hlse, hsse] at HA5
    have hLe : lse.length = L := by rw [← hlse]; exact hL
    have hSe : sse.length = S := by rw [← hsse]; exact hS
    have HAe := HA5
    clear HA5
    have hie : i < lse.length := by omega
    have c0 := HAe.out.c0
    have c1 := HAe.out.c1
    have x0 := HAe.out.x0
    have x1 := HAe.out.x1
    have x2 := HAe.out.x2
    have hve : i < vs.length := by have := HAe.out.own.1; omega
    obtain ⟨e0, e1, e2⟩ := lnC_get lse vs i hie hve
    have HAe' : Hid (AnSt w b (n + 202 + 2) v nb xb B (.slice (some ⟨gS, 0, none⟩) S cS) (.slice (some ⟨gl, 0, none⟩) lse.length oc) (.slice sa sl sc) (.slice ra rl rc) sse lse vs xe we) := by rw [hLe]; exact HAe
    have y0 := HAe'.out.own.2.1.cellAt (i * 3) (by omega)
    have y1 := HAe'.out.own.2.1.cellAt (i * 3 + 1) (by omega)
    have y2 := HAe'.out.own.2.1.cellAt (i * 3 + 2) (by omega)
    have yf := HAe'.out.own.2.1.frozenAt
    rw [e0] at y0
    rw [e1] at y1
    rw [e2] at y2
    have HPe := Lib.hid (HAe'.out.put HV.out hlt i hie)
    rw [hLe] at HPe
    clear e0 e1 e2 HAe HAe'
    go_upto_region 25 with fail
    obtain ⟨wf, hwf⟩ : ∃ wf : World, wf = ((we.setCell ⟨gl, i * 3, none⟩ (.string xe.name)).setCell ⟨gl, i * 3 + 1, none⟩ (.slice sa sl sc)).setCell ⟨gl, i * 3 + 2, none⟩ (.slice ra rl rc) := ⟨_, rfl⟩
    rw [← hwf] at HPe ⊢
    clear hwf c0 c1 x0 x1 x2 y0 y1 y2 yf
    obtain ⟨lsf, hlsf⟩ : ∃ lsf, lse.set i xe = lsf := ⟨_, rfl⟩
    have hLf : lsf.length = L := by rw [← hlsf]; simp [hLe]
    rw [hlsf] at HPe
    obtain ⟨ssf, rfl⟩ : ∃ ssf, ssf = sse := ⟨_, rfl⟩
    have hSf := hSe
    have HAf := HPe
    obtain ⟨oaf, hoaf⟩ : ∃ oaf : Option Addr, some ⟨gl, 0, none⟩ = oaf := ⟨_, rfl⟩
    obtain ⟨ocf, hocf⟩ : ∃ ocf, oc = ocf := ⟨_, rfl⟩
    obtain ⟨Lf, rfl⟩ : ∃ Lf, Lf = L := ⟨_, rfl⟩
    rw [hoaf, hocf] at HAf
    have HF := Lib.hid (HAf.out.fin HV.out hlt)
    have g0 := HAf.out.c0
    have g1 := HAf.out.c1
    obtain ⟨z0, z1, zl, zf⟩ := HAf.out.z
    have hok := HAf.out.ok
    have hnw := HAf.out.hy
    have hcm : n + 202 + 2 ≤ n + 700 := by omega
    go_wp2_with fail
    have hE : ∃ (d : NetD) (a : Option Addr) (c : Nat) (oa : Option Addr) (oc u : Nat), Ending.returned (Value.agg #[.slice (some ⟨gS, 0, none⟩) S cS, .slice oaf Lf ocf]) = .returned (.agg #[.slice a d.stops.length c, .slice oa d.lines.length oc]) ∧ (d.stops.length ≤ 8 ∧ ∀ s ∈ d.stops, s.size ≤ 20) ∧ d.lines.length ≤ 12 ∧ (∀ l ∈ d.lines, AnyLn l) ∧ NetL (w.heap.size + 1) u ((wf.setCell ⟨w.heap.size, 0, none⟩ (.slice (some ⟨gS, 0, none⟩) S cS)).setCell ⟨w.heap.size, 1, none⟩ (.slice oaf Lf ocf)) (.agg #[.slice a d.stops.length c, .slice oa d.lines.length oc]) d ∧ u ≤ ((wf.setCell ⟨w.heap.size, 0, none⟩ (.slice (some ⟨gS, 0, none⟩) S cS)).setCell ⟨w.heap.size, 1, none⟩ (.slice oaf Lf ocf)).heap.size := ⟨⟨ssf, lsf⟩, some ⟨gS, 0, none⟩, cS, oaf, ocf, wf.heap.size, (by dsimp only; rw [hSf, hLf]), hok.1, hok.2.1, hok.2.2.1, (by dsimp only; rw [hSf, hLf]; exact HF.out.1), by simp [World.setCell]⟩
    exact bodyPost_ret (v := .agg #[.slice (some ⟨gS, 0, none⟩) S cS, .slice oaf Lf ocf]) (by simp only [results, Try.results41]; go_simp) rfl ⟨by first | exact hE | simpa only [exists_and_left, exists_and_right] using hE, curPost_mono HF.out.2.1 hcm⟩
end Go.Proofs.Ytemejcbilhcebaa

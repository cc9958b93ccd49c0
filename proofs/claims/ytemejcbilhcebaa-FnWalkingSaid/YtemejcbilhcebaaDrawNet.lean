import Derived.Test.YtemejcbilhcebaaDrawLine
import Derived.Test.YtemejcbilhcebaaL2BackS
import Derived.Test.YtemejcbilhcebaaL2Own
import Derived.Test.YtemejcbilhcebaaMk20
namespace Go.Proofs.Ytemejcbilhcebaa
open Go.RowKit
set_option linter.unusedVariables false
set_option linter.unusedSimpArgs false

def names6 : List ByteArray := [⟨#[112, 111, 114, 116]⟩, ⟨#[109, 105, 108, 108]⟩, ⟨#[112, 97, 114, 107]⟩, ⟨#[104, 97, 108, 108]⟩, ⟨#[100, 111, 99, 107]⟩, ⟨#[102, 97, 105, 114]⟩]

def nmL (i : Nat) : ByteArray := ⟨([108] ++ Lib.itoa (i : Int)).toArray⟩

def nmsL (i0 i : Nat) : List ByteArray := (List.range (i0 - i)).map (fun j => nmL (i0 - j))
theorem nmsL_succ {i0 i : Nat} (h : i + 1 ≤ i0) : nmsL i0 i = nmsL i0 (i + 1) ++ [nmL (i + 1)] := by
  unfold nmsL
  rw [show i0 - i = (i0 - (i + 1)) + 1 by omega, List.range_succ, List.map_append]
  simp only [List.map_cons, List.map_nil]
  rw [show i0 - (i0 - (i + 1)) = i + 1 by omega]
theorem names6_ok (K : Nat) (h2 : 2 ≤ K) (h6 : K ≤ 6) : (names6.take K).length = K ∧ (∀ s ∈ names6.take K, NameOk s) ∧ (names6.take K).Nodup := by
  have h : K = 2 ∨ K = 3 ∨ K = 4 ∨ K = 5 ∨ K = 6 := by omega
  rcases h with rfl | rfl | rfl | rfl | rfl <;> decide
theorem nms_ok (i0 : Nat) (h1 : 1 ≤ i0) (h3 : i0 ≤ 3) : (∀ s ∈ nmsL i0 0, NameOk s) ∧ (nmsL i0 0).Nodup ∧ (nmsL i0 0).length = i0 ∧ (⟨#[114, 49]⟩ : ByteArray) ∉ nmsL i0 0 ∧ NameOk ⟨#[114, 49]⟩ := by
  have h : i0 = 1 ∨ i0 = 2 ∨ i0 = 3 := by omega
  have e1 : nmL 1 = ⟨#[108, 49]⟩ := by simp [nmL, Lib.itoa, Lib.decDigits]
  have e2 : nmL 2 = ⟨#[108, 50]⟩ := by simp [nmL, Lib.itoa, Lib.decDigits]
  have e3 : nmL 3 = ⟨#[108, 51]⟩ := by simp [nmL, Lib.itoa, Lib.decDigits]
  rcases h with rfl | rfl | rfl
  · have : nmsL 1 0 = [⟨#[108, 49]⟩] := by simp [nmsL, List.range_succ, e1]
    rw [this]; exact ⟨by decide, by decide, by decide, by simp, by decide⟩
  · have : nmsL 2 0 = [⟨#[108, 50]⟩, ⟨#[108, 49]⟩] := by simp [nmsL, List.range_succ, e1, e2]
    rw [this]; exact ⟨by decide, by decide, by decide, by simp, by decide⟩
  · have : nmsL 3 0 = [⟨#[108, 51]⟩, ⟨#[108, 50]⟩, ⟨#[108, 49]⟩] := by simp [nmsL, List.range_succ, e1, e2, e3]
    rw [this]; exact ⟨by decide, by decide, by decide, by simp, by decide⟩
theorem goodN {K i0 : Nat} {ls : List LineD} (h2 : 2 ≤ K) (h6 : K ≤ 6) (h1 : 1 ≤ i0) (h3 : i0 ≤ 3) (hn : ls.map (·.name) = nmsL i0 0) (hok : ∀ l ∈ ls, LineOk l K) : NetGood ⟨names6.take K, ls⟩ := by
  obtain ⟨a1, a2, a3⟩ := names6_ok K h2 h6
  obtain ⟨b1, b2, b3, -, -⟩ := nms_ok i0 h1 h3
  have hl : ls.length = i0 := by rw [← b3, ← hn, List.length_map]
  refine ⟨⟨by show 2 ≤ (names6.take K).length; omega, by show (names6.take K).length ≤ 8; omega, by show 1 ≤ ls.length; omega, by show ls.length ≤ 5; omega⟩, a2, a3, fun l hl => ⟨b1 _ (by rw [← hn]; exact List.mem_map.2 ⟨l, hl, rfl⟩), ?_⟩, by show (ls.map (·.name)).Nodup; rw [hn]; exact b2⟩
  show LineOk l (names6.take K).length
  rw [a1]; exact hok l hl
theorem goodR {K i0 : Nat} {ls : List LineD} {x : LineD} (h2 : 2 ≤ K) (h6 : K ≤ 6) (h1 : 1 ≤ i0) (h3 : i0 ≤ 3) (hn : ls.map (·.name) = nmsL i0 0) (hok : ∀ l ∈ ls, LineOk l K) (hx : x ∈ ls) : NetGood ⟨names6.take K, ls ++ [⟨⟨#[114, 49]⟩, x.stops.reverse, x.runs.reverse⟩]⟩ := by
  obtain ⟨a1, a2, a3⟩ := names6_ok K h2 h6
  obtain ⟨b1, b2, b3, b4, b5⟩ := nms_ok i0 h1 h3
  have hl : ls.length = i0 := by rw [← b3, ← hn, List.length_map]
  obtain ⟨⟨x1, x2, x3⟩, x4, x5, x6⟩ := hok x hx
  have hr : LineOk ⟨⟨#[114, 49]⟩, x.stops.reverse, x.runs.reverse⟩ K := ⟨⟨by simpa using x1, by simpa using x2, by simpa using x3⟩, fun s hs => x4 s (by simpa using hs), List.pairwise_reverse.2 (x5.imp fun h e => h e.symm), fun r hr => x6 r (by simpa using hr)⟩
  refine ⟨⟨by show 2 ≤ (names6.take K).length; omega, by show (names6.take K).length ≤ 8; omega, by simp, by simp; omega⟩, a2, a3, fun l hl => ?_, ?_⟩
  · rcases List.mem_append.1 hl with hl | hl
    · exact ⟨b1 _ (by rw [← hn]; exact List.mem_map.2 ⟨l, hl, rfl⟩), by show LineOk l (names6.take K).length; rw [a1]; exact hok l hl⟩
    · simp at hl; subst hl
      exact ⟨b5, by show LineOk _ (names6.take K).length; rw [a1]; exact hr⟩
  · show ((ls ++ [(⟨⟨#[114, 49]⟩, x.stops.reverse, x.runs.reverse⟩ : LineD)]).map (fun l : LineD => l.name)).Nodup
    rw [List.map_append, hn]
    rw [List.nodup_append]
    exact ⟨b2, by simp, fun a ha c hc => by simp at hc; subst hc; exact fun e => b4 (e ▸ ha)⟩
theorem OwnLsV.keep {B : Nat} {w W : World} {v : Value} {ls : List LineD} {vs : List (Value × Value)} (h : OwnLsV B w v ls vs) (hq : ∀ q, B ≤ q → q < w.heap.size → W.heap[q]? = w.heap[q]?) : OwnLsV B W v ls vs := by
  obtain ⟨h1, h2, h3⟩ := h
  have ho : ∀ {e : TypeId} {sz : Nat} {x : Value} {m : Nat} {zs : List Value}, w.ownsRow B e sz x m zs → W.ownsRow B e sz x m zs := fun hx => own_block hx (fun g hg => hq g (hx.lt g hg).1 (hx.lt g hg).2)
  exact ⟨h1, ho h2, fun j hj hj' => ⟨⟨ho (h3 j hj hj').1.1, ho (h3 j hj hj').1.2⟩, (h3 j hj hj').2⟩⟩
theorem OwnLsV.set {B : Nat} {w : World} {v : Value} {ls : List LineD} {vs : List (Value × Value)} (h : OwnLsV B w v ls vs) {p : Addr} (hp : p.block < B) (u : Value) : OwnLsV B (w.setCell p u) v ls vs :=
  h.keep (fun q hq _ => Below.heap_setCell _ _ _ _ (by omega))

theorem OwnLsV.snocU {B B1 : Nat} {w w' : World} {v v' : Value} {ls : List LineD} {l : LineD} {s r : Value} {vs : List (Value × Value)} (h : OwnLsV B w v ls vs) (hs : w.ownsRow B1 3 1 s l.stops.length (ints l.stops)) (hr : w.ownsRow B1 3 1 r l.runs.length (ints l.runs)) (hB : B ≤ B1) (hv : ∀ g, v.ownBlock = some g → g < B1)
    (hn : w'.ownsRow B 36 3 v' (ls.length + 1) (lnC ls vs ++ [.string l.name, s, r])) (hg : w.grownBy w' v.ownBlock) (hat : v'.ownBlock = v.ownBlock ∨ v'.ownBlock = some w.heap.size) : OwnLsV B w' v' (ls ++ [l]) (vs ++ [(s, r)]) := by
  obtain ⟨h1, h2, h3⟩ := h
  have hfar : ∀ (x : Value) (m : Nat) (zs : List Value), w.ownsRow B1 3 1 x m zs → (x.ownBlock = none ∨ x.ownBlock ≠ v.ownBlock) := fun x m zs hx => by
    rcases hxe : x.ownBlock with _ | q
    · exact .inl rfl
    · refine .inr fun e => ?_
      have := (hx.lt q hxe).1
      have := hv q e.symm
      omega
  have hne : ∀ (x : Value) (m : Nat) (zs : List Value) (B' : Nat), w.ownsRow B' 3 1 x m zs → (x.ownBlock = none ∨ x.ownBlock ≠ v.ownBlock) → (x.ownBlock = none ∨ x.ownBlock ≠ v'.ownBlock) := fun x m zs B' hx hvx => by
    rcases hvx with hvx | hvx
    · exact .inl hvx
    · rcases hat with ha | ha
      · exact .inr (by rw [ha]; exact hvx)
      · rcases hxe : x.ownBlock with _ | q
        · exact .inl rfl
        · refine .inr fun e => ?_
          have := (hx.lt q hxe).2
          rw [ha] at e; simp at e; omega
  refine ⟨by simp [h1], ?_, fun j hj hj' => ?_⟩
  · rw [lnC_append ls vs l (s, r) h1, List.length_append]; exact hn
  · by_cases e : j < ls.length
    · have e' : j < vs.length := by omega
      have := h3 j e e'
      simp only [List.getElem_append_left e, List.getElem_append_left e']
      exact ⟨⟨this.1.1.kept hg this.2.1, this.1.2.kept hg this.2.2⟩, hne _ _ _ _ this.1.1 this.2.1, hne _ _ _ _ this.1.2 this.2.2⟩
    · have e1 : j = ls.length := by simp at hj; omega
      subst e1
      have e2 : (ls ++ [l])[ls.length]'hj = l := by simp
      have e3 : (vs ++ [(s, r)])[ls.length]'hj' = (s, r) := by rw [List.getElem_append_right (by omega)]; simp [h1]
      rw [e2, e3]
      exact ⟨⟨(own_base hs hB).kept hg (hfar _ _ _ hs), (own_base hr hB).kept hg (hfar _ _ _ hr)⟩, hne _ _ _ _ hs (hfar _ _ _ hs), hne _ _ _ _ hr (hfar _ _ _ hr)⟩
theorem run_append_line (w : World) (B : Nat) (v : Value) (ls : List LineD) (vs : List (Value × Value)) (hown : w.ownsRow B 36 3 v ls.length (lnC ls vs)) (g : Nat) (x0 x1 x2 : Value) (hy : ∀ j x, [x0, x1, x2][j]? = some x → w.cell? ((⟨g, 0, none⟩ : Addr).add j) = some x) (hone : ∀ u ∈ [x0, x1, x2], u.oneCell' = true) (hn : ls.length ≤ 1000) (hB : B ≤ w.heap.size) :
    ∃ v' w', (Builtin.append_ #[25, 25] 25 #[v, .slice (some ⟨g, 0, none⟩) 1 1]).run Try.prog w = .ok v' w' ∧ w'.ownsRow B 36 3 v' (ls.length + 1) (lnC ls vs ++ [x0, x1, x2]) ∧ w.grownBy w' v.ownBlock ∧ (v'.ownBlock = v.ownBlock ∨ v'.ownBlock = some w.heap.size) := by
  obtain ⟨i, hi, hz0, hz1, hz2⟩ := info_parts infoLine5
  obtain ⟨v', w', h1, h2, h3, -, h5⟩ := run_append_own_at (P := Try.prog) (w := w) B 25 25 36 i (.agg #[.string ⟨#[]⟩, .slice none 0 0, .slice none 0 0]) 3 64 Try.underlying25 hi hz0 hz1 hz2 rfl (by decide) v ls.length (lnC ls vs) hown ⟨g, 0, none⟩ 1 1 [x0, x1, x2] rfl hy hone (by unfold maxLen; omega) (by omega) hB
  exact ⟨v', w', h1, h2, h3, h5⟩

structure NwSt (w : World) (b n : Nat) (v : Value) (yb xb K : Nat) (ls : List LineD) (vs : List (Value × Value)) (la : Value) (W : World) : Prop where
  cur : CurPost w b n v W
  z : W.cell? ⟨w.heap.size, 0, none⟩ = some (.slice none 0 0) ∧ W.cell? ⟨w.heap.size, 1, none⟩ = some (.slice none 0 0) ∧ w.heap.size < W.heap.size ∧ ∀ o, W.frozen? ⟨w.heap.size, o, none⟩ = false
  c0 : W.cell? ⟨xb, 0, none⟩ = some (.slice (some ⟨yb, 0, none⟩) K 6)
  c1 : W.cell? ⟨xb, 1, none⟩ = some la
  f : ∀ o, W.frozen? ⟨xb, o, none⟩ = false
  st : RowAt W (.slice (some ⟨yb, 0, none⟩) K 6) (strs (names6.take K))
  own : OwnLsV (xb + 1) W la ls vs
  hy : w.heap.size < yb ∧ yb < xb
theorem NwSt.lt {w : World} {b n : Nat} {v : Value} {yb xb K : Nat} {ls : List LineD} {vs : List (Value × Value)} {la : Value} {W : World} (h : NwSt w b n v yb xb K ls vs la W) : xb + 1 ≤ W.heap.size := by
  have := World.block_lt_of_cell? W _ h.c0; dsimp only at this; omega
theorem NwSt.keep {w : World} {b n m : Nat} {v : Value} {yb xb K : Nat} {ls : List LineD} {vs : List (Value × Value)} {la : Value} {W W' : World} (h : NwSt w b n v yb xb K ls vs la W) (hc : CurPost w b m v W') (hz : W.heap.size ≤ W'.heap.size) (hk : ∀ q, w.heap.size ≤ q → q < W.heap.size → W'.heap[q]? = W.heap[q]?) : NwSt w b m v yb xb K ls vs la W' := by
  have hl := h.lt
  obtain ⟨hy1, hy2⟩ := h.hy
  have cell : ∀ q o u, w.heap.size ≤ q → q < W.heap.size → W.cell? ⟨q, o, none⟩ = some u → W'.cell? ⟨q, o, none⟩ = some u := fun q o u h1 h2 hu => by rw [World.cell?_of_block (hk q h1 h2)]; exact hu
  have froz : ∀ q o, w.heap.size ≤ q → q < W.heap.size → W.frozen? ⟨q, o, none⟩ = false → W'.frozen? ⟨q, o, none⟩ = false := fun q o h1 h2 hu => by rw [World.frozen?_of_block (a := ⟨q, o, none⟩) (hk q h1 h2)]; exact hu
  obtain ⟨z0, z1, zl, zf⟩ := h.z
  refine ⟨hc, ⟨cell _ _ _ (Nat.le_refl _) zl z0, cell _ _ _ (Nat.le_refl _) zl z1, by omega, fun o => froz _ o (Nat.le_refl _) zl (zf o)⟩, cell _ _ _ (by omega) (by omega) h.c0, cell _ _ _ (by omega) (by omega) h.c1, fun o => froz _ o (by omega) (by omega) (h.f o), ?_, h.own.keep (fun q h1 h2 => hk q (by omega) h2), h.hy⟩
  obtain ⟨a, c, hv, h1, h2, h3⟩ := h.st
  refine ⟨a, c, hv, h1, h2, fun k u hu => ?_⟩
  obtain ⟨g, off, ha, hlt, hcc⟩ := h3 k u hu
  simp at hv
  obtain ⟨rfl, -, -⟩ := hv
  simp at ha
  obtain ⟨rfl, rfl⟩ := ha
  exact ⟨_, _, rfl, by omega, cell _ _ _ (by omega) (by omega) hcc⟩
section
variable {w : World} {b n m : Nat} {v : Value} {yb xb K : Nat} {ls : List LineD} {vs : List (Value × Value)} {la : Value} {W W' : World}
theorem NwSt.cur' (h : NwSt w b n v yb xb K ls vs la W) (hb : b < w.heap.size) (hp : CurPost W b m v W') : NwSt w b m v yb xb K ls vs la W' :=
  h.keep (curPost_trans h.cur hp) hp.2.2.size (fun q h1 h2 => hp.2.2.block q h2 (by simp; omega))
theorem NwSt.later (h : NwSt w b n v yb xb K ls vs la W) (hv : CodeOff w b v) (hb : b < w.heap.size) (hW : Below W.heap.size W W') : NwSt w b n v yb xb K ls vs la W' :=
  h.keep (curPost_later hv hb h.cur hW) hW.size (fun q _ h2 => hW.block q h2)
theorem NwSt.alloc (h : NwSt w b n v yb xb K ls vs la W) (o : Obj) : NwSt w b n v yb xb K ls vs la (W.alloc o) :=
  h.keep (curPost_alloc h.cur o) (by simp) (fun q _ h2 => Below.heap_alloc _ _ _ h2)
theorem NwSt.net (h : NwSt w b n v yb xb K ls vs la W) (hK : K ≤ 6) : NetAt W (.agg #[.slice (some ⟨yb, 0, none⟩) K 6, la]) ⟨names6.take K, ls⟩ :=
  ⟨_, _, rfl, h.st, OwnLs.at ⟨vs, h.own⟩⟩

theorem NwSt.app (h : NwSt w b n v yb xb K ls vs la W) (hv : CodeOff w b v) (hb : b < w.heap.size) {g B1 : Nat} {name : ByteArray} {s r : Value} {l : LineD} (hy : ∀ j x, [Value.string name, s, r][j]? = some x → W.cell? ((⟨g, 0, none⟩ : Addr).add j) = some x) (hl : l.name = name)
    (hs : W.ownsRow B1 3 1 s l.stops.length (ints l.stops)) (hr : W.ownsRow B1 3 1 r l.runs.length (ints l.runs)) (hB : xb + 1 ≤ B1) (hla : ∀ q, la.ownBlock = some q → q < B1) (hn : ls.length ≤ 100) :
    ∃ v' W2, (Builtin.append_ #[25, 25] 25 #[la, .slice (some ⟨g, 0, none⟩) 1 1]).run Try.prog W = .ok v' W2 ∧ NwSt w b n v yb xb K (ls ++ [l]) (vs ++ [(s, r)]) v' (W2.setCell ⟨xb, 1, none⟩ v') ∧ W2.cell? ⟨xb, 1, none⟩ = some la ∧ (∀ o, W2.frozen? ⟨xb, o, none⟩ = false) ∧ W.grownBy W2 la.ownBlock ∧ ∃ g3 c3, v' = .slice (some ⟨g3, 0, none⟩) (ls.length + 1) c3 := by
  have hlW := h.lt
  obtain ⟨hy1, hy2⟩ := h.hy
  have hs1 : s.oneCell' = true := by obtain ⟨_, _, rfl⟩ := own_shape hs; rfl
  have hr1 : r.oneCell' = true := by obtain ⟨_, _, rfl⟩ := own_shape hr; rfl
  obtain ⟨v', W2, h1, h2, h3, h5⟩ := run_append_line W (xb + 1) la ls vs h.own.2.1 g _ _ _ hy (by intro u hu; simp at hu; rcases hu with rfl | rfl | rfl; rfl; exact hs1; exact hr1) (by omega) hlW
  have far : ∀ q, q < xb + 1 → some q ≠ la.ownBlock := fun q hq e => by have := (h.own.2.1.lt q e.symm).1; omega
  have hC : CurPost w b n v W2 := cur_grown hv hb h.cur h3 (fun q hq => by have := (h.own.2.1.lt q hq).1; omega)
  have hO : OwnLsV (xb + 1) W2 v' (ls ++ [l]) (vs ++ [(s, r)]) := OwnLsV.snocU h.own hs hr hB hla (by rw [hl]; exact h2) h3 h5
  have c1 := h3.cell (a := ⟨xb, 1, none⟩) h.c1 (far _ (by dsimp only; omega))
  have hf : ∀ o, W2.frozen? ⟨xb, o, none⟩ = false := fun o => by rw [h3.frozen_far ⟨xb, o, none⟩ (by dsimp only; omega) (far _ (by dsimp only; omega))]; exact h.f o
  obtain ⟨z0, z1, zl, zf⟩ := h.z
  have hsz := h3.size
  obtain ⟨g3, c3, hv3⟩ : ∃ g3 c3, v' = .slice (some ⟨g3, 0, none⟩) (ls.length + 1) c3 := by
    rcases h2.2 with ⟨hv, h0⟩ | ⟨g, cap, cur, hv, _⟩
    · omega
    · exact ⟨g, cap, hv⟩
  refine ⟨v', W2, h1, ⟨curPost_set hv hC (by omega) (by omega), ⟨?_, ?_, ?_, ?_⟩, ?_, ?_, ?_, ?_, hO.set (by dsimp only; omega) _, h.hy⟩, c1, hf, h3, g3, c3, hv3⟩
  · rw [World.cell?_setCell_other _ _ _ _ (fun e => by first | (simp at e; done) | (simp at e; omega))]; exact h3.cell (a := ⟨w.heap.size, 0, none⟩) z0 (far _ (by dsimp only; omega))
  · rw [World.cell?_setCell_other _ _ _ _ (fun e => by first | (simp at e; done) | (simp at e; omega))]; exact h3.cell (a := ⟨w.heap.size, 1, none⟩) z1 (far _ (by dsimp only; omega))
  · simp [World.setCell]; omega
  · intro o; rw [World.frozen?_setCell, h3.frozen_far ⟨w.heap.size, o, none⟩ (by dsimp only; omega) (far _ (by dsimp only; omega))]; exact zf o
  · rw [World.cell?_setCell_other _ _ _ _ (fun e => by simp at e)]; exact h3.cell (a := ⟨xb, 0, none⟩) h.c0 (far _ (by dsimp only; omega))
  · exact World.cell?_setCell_same _ _ _ c1
  · intro o; rw [World.frozen?_setCell]; exact hf o
  · obtain ⟨a, c, hv, k1, k2, k3⟩ := h.st
    refine ⟨a, c, hv, k1, k2, fun k u hu => ?_⟩
    obtain ⟨q, off, ha, hlt, hcc⟩ := k3 k u hu
    simp at hv
    obtain ⟨rfl, -, -⟩ := hv
    simp at ha
    obtain ⟨rfl, rfl⟩ := ha
    refine ⟨_, _, rfl, by simp [World.setCell]; omega, ?_⟩
    rw [World.cell?_setCell_other _ _ _ _ (fun e => by first | (simp at e; done) | (simp at e; omega))]
    exact h3.cell (a := ⟨yb, 0 + k, none⟩) hcc (far _ (by dsimp only; omega))

theorem NwSt.fin (h : NwSt w b n v yb xb K ls vs la W) (hv : CodeOff w b v) (hb : b < w.heap.size) (u0 u1 : Value) {C B9 : Nat} {ns : List ByteArray} {ls9 : List LineD} (hC : w.heap.size < C) (hst : W.ownsRow C 9 1 u0 ns.length (strs ns)) (hls : OwnLs B9 W u1 ls9) (hB9 : C ≤ B9) :
    ((W.setCell ⟨w.heap.size, 0, none⟩ u0).setCell ⟨w.heap.size, 1, none⟩ u1).ownsRow (w.heap.size + 1) 9 1 u0 ns.length (strs ns) ∧ OwnLs B9 ((W.setCell ⟨w.heap.size, 0, none⟩ u0).setCell ⟨w.heap.size, 1, none⟩ u1) u1 ls9 ∧ w.heap.size + 1 ≤ B9 ∧
    CurPost w b n v ((W.setCell ⟨w.heap.size, 0, none⟩ u0).setCell ⟨w.heap.size, 1, none⟩ u1) :=
  ⟨own_base (ownsRow_setCell_below (ownsRow_setCell_below hst (by dsimp only; omega) _) (by dsimp only; omega) _) (by omega), (hls.set (by dsimp only; omega) _).set (by dsimp only; omega) _, by omega,
    curPost_set hv (curPost_set hv h.cur (Nat.le_refl _) (by omega)) (Nat.le_refl _) (by omega)⟩
end

set_option maxRecDepth 100000 in
set_option maxHeartbeats 16000000 in
theorem network_any (b n : Nat) (v : Value) (w : World) (hc : CurAt w b v n) (hv : CodeOff w b v) (hn : n ≤ 400000) :
    Calls Try.prog 91 #[.pointer (some ⟨b, 0, none⟩)] w fun e w' => (∃ (d : NetD) (gS cS : Nat) (oa : Option Addr) (oc B : Nat), e = .returned (.agg #[.slice (some ⟨gS, 0, none⟩) d.stops.length cS, .slice oa d.lines.length oc]) ∧ NetGood d ∧ w'.ownsRow (w.heap.size + 1) 9 1 (.slice (some ⟨gS, 0, none⟩) d.stops.length cS) d.stops.length (strs d.stops) ∧ OwnLs B w' (.slice oa d.lines.length oc) d.lines ∧ w.heap.size + 1 ≤ B ∧ gS < B) ∧ CurPost w b (n + 200) v w' := by
  have hlt := curAt_lt hc
  have HV := Lib.hid hv
  have HP0 := Lib.hid (curPost_start hc hv (.cells #[.slice none 0 0, .slice none 0 0] 27))
  have H1 := Lib.hid (pick_any b n v 5 _ HP0.out.1 HP0.out.2.1 (by omega) (by omega))
  have hbn : ∀ (a : Option Addr) (n c : Nat) (W : World), (Instr.build 27 #[(0, .slice a n c)]).run Try.prog W = .ok (.agg #[.slice a n c, .slice none 0 0]) W := fun a n c W => run_build W 27 #[(0, .slice a n c)] #[.slice a n c, .slice none 0 0] (by kernel_rfl)
  have hbl : ∀ (a a' : Option Addr) (n c n' c' : Nat) (W : World), (Instr.build 36 #[(0, .string ⟨#[114, 49]⟩), (1, .slice a n c), (2, .slice a' n' c')]).run Try.prog W = .ok (.agg #[.string ⟨#[114, 49]⟩, .slice a n c, .slice a' n' c']) W := fun a a' n c n' c' W => run_build W 36 #[(0, .string ⟨#[114, 49]⟩), (1, .slice a n c), (2, .slice a' n' c')] #[.string ⟨#[114, 49]⟩, .slice a n c, .slice a' n' c'] (by kernel_rfl)
  have hz : (w.alloc (.cells #[.slice none 0 0, .slice none 0 0] 27)).cell? ⟨w.heap.size, 0, none⟩ = some (.slice none 0 0) ∧ (w.alloc (.cells #[.slice none 0 0, .slice none 0 0] 27)).cell? ⟨w.heap.size, 1, none⟩ = some (.slice none 0 0) ∧ w.heap.size < (w.alloc (.cells #[.slice none 0 0, .slice none 0 0] 27)).heap.size ∧ ∀ o, (w.alloc (.cells #[.slice none 0 0, .slice none 0 0] 27)).frozen? ⟨w.heap.size, o, none⟩ = false := ⟨by go_simp, by go_simp, by simp, fun o => by go_simp⟩
  have HZ := Lib.hid hz
  clear hc hv hz
  go_enter Try.func91, Try.ntmps91
  go_wp2_with fail
  go_at_call 42
  refine H1.out.mono ?_
  rintro e w1 ⟨⟨k0, rfl, hk0, hk1⟩, hp⟩
  have hk2 := hk1 (by omega)
  obtain ⟨kn, rfl⟩ := Int.eq_ofNat_of_zero_le hk0
  have HP1 := Lib.hid (curPost_trans HP0.out hp)
  obtain ⟨Kn, hK⟩ : ∃ Kn, Kn = 2 + kn := ⟨_, rfl⟩
  have hKi : (2 : Int) + (kn : Int) = (Kn : Int) := by omega
  have hK2 : 2 ≤ Kn := by omega
  have hK6 : Kn ≤ 6 := by omega
  obtain ⟨w2, hw2⟩ : ∃ w2 : World, w2 = (w1.alloc (.cells #[.string ⟨#[112, 111, 114, 116]⟩, .string ⟨#[109, 105, 108, 108]⟩, .string ⟨#[112, 97, 114, 107]⟩, .string ⟨#[104, 97, 108, 108]⟩, .string ⟨#[100, 111, 99, 107]⟩, .string ⟨#[102, 97, 105, 114]⟩] 9)).alloc (.cells #[.slice (some ⟨w1.heap.size, 0, none⟩) Kn 6, .slice none 0 0] 27) := ⟨_, rfl⟩
  have hbb : Below w1.heap.size w1 w2 := by rw [hw2]; exact ((Below.refl _ _).alloc (Nat.le_refl _) _).alloc (by simp) _
  have hz1 : w.heap.size < w1.heap.size := by have := hp.2.2.size; simp at this; omega
  have HN2 : Hid (NwSt w b (n + 2) v w1.heap.size (w1.heap.size + 1) Kn [] [] (.slice none 0 0) w2) := by
    show NwSt _ _ _ _ _ _ _ _ _ _ _
    have zc : ∀ o u, (w.alloc (.cells #[.slice none 0 0, .slice none 0 0] 27)).cell? ⟨w.heap.size, o, none⟩ = some u → w2.cell? ⟨w.heap.size, o, none⟩ = some u := fun o u hu => bkeep hbb (hp.2.2.cell hu (by simp; omega))
    refine ⟨curPost_later HV.out hlt HP1.out hbb, ⟨zc _ _ HZ.out.1, zc _ _ HZ.out.2.1, by have := hbb.size; omega, fun o => ?_⟩, by rw [hw2]; go_simp, by rw [hw2]; go_simp, fun o => by rw [hw2]; go_simp, ?_, ⟨rfl, World.ownsRow_nil _ _ _ _, fun j h => by simp at h⟩, by omega, by omega⟩
    · rw [World.frozen?_of_block (a := ⟨w.heap.size, o, none⟩) (hbb.block w.heap.size (by omega)), World.frozen?_of_block (a := ⟨w.heap.size, o, none⟩) (hp.2.2.block w.heap.size (by simp) (by simp; omega))]
      exact HZ.out.2.2.2 o
    · have hR : RowAt (w1.alloc (.cells #[.string ⟨#[112, 111, 114, 116]⟩, .string ⟨#[109, 105, 108, 108]⟩, .string ⟨#[112, 97, 114, 107]⟩, .string ⟨#[104, 97, 108, 108]⟩, .string ⟨#[100, 111, 99, 107]⟩, .string ⟨#[102, 97, 105, 114]⟩] 9)) (.slice (some ⟨w1.heap.size, 0, none⟩) 6 6) (strs names6) := rowAt_own (B := 0) (n := 6) (e := 9) (by
        have h := World.ownsRow_lit (base := 0) (e := 9) (size := 1) w1 #[.string ⟨#[112, 111, 114, 116]⟩, .string ⟨#[109, 105, 108, 108]⟩, .string ⟨#[112, 97, 114, 107]⟩, .string ⟨#[104, 97, 108, 108]⟩, .string ⟨#[100, 111, 99, 107]⟩, .string ⟨#[102, 97, 105, 114]⟩] 6 (Nat.zero_le _) (by decide) (by simp)
        simpa [strs, names6] using h)
      have hR2 : RowAt w2 (.slice (some ⟨w1.heap.size, 0, none⟩) 6 6) (strs names6) := by rw [hw2]; exact hR.below rfl ((Below.refl _ _).alloc (Nat.le_refl _) _)
      obtain ⟨a, c, he, h1, h2, h3⟩ := hR2
      refine ⟨some ⟨w1.heap.size, 0, none⟩, 6, ?_, by rw [strs_len, (names6_ok Kn hK2 hK6).1]; exact hK6, by decide, fun k u hu => ?_⟩
      · rw [strs_len, (names6_ok Kn hK2 hK6).1]
      · have hu2 : (strs names6)[k]? = some u := by
          unfold strs at hu ⊢
          rw [List.map_take] at hu
          rw [List.getElem?_take] at hu
          split at hu
          · exact hu
          · cases hu
        obtain ⟨g, off, ha, hl, hc⟩ := h3 k u hu2
        simp at he
        obtain ⟨rfl, -, -⟩ := he
        exact ⟨g, off, ha, hl, hc⟩
  have HW2 := Lib.hid hw2
  have H3 := Lib.hid (pick_any b (n + 2) v 3 w2 HN2.out.cur.1 HN2.out.cur.2.1 (by omega) (by omega))
  have hcK : (Kn : Int) ≤ 6 := by omega
  have hcK0 : (0 : Int) ≤ (Kn : Int) := by omega
  have hwK : IntKind.i64.wrap (Kn : Int) = (Kn : Int) := IntWalk.i64_in _ (by omega)
  have hwK2 : IntKind.i64.wrap ((2 : Int) + (kn : Int)) = (Kn : Int) := by rw [hKi]; exact hwK
  clear hK
  clear hp H1 hk1 HP0 HP1 HZ hw2 hbb
  go_wp2_with fail
  rw [← HW2.out]
  go_at_call 42
  refine H3.out.mono ?_
  rintro e w3 ⟨⟨i0, rfl, hi00, hi01⟩, hp⟩
  have hi02 := hi01 (by omega)
  obtain ⟨j0, rfl⟩ := Int.eq_ofNat_of_zero_le hi00
  have HN3 := Lib.hid (HN2.out.cur' hlt hp)
  obtain ⟨yb, hyb⟩ : ∃ yb, w1.heap.size = yb := ⟨_, rfl⟩
  obtain ⟨xb, hxb⟩ : ∃ xb, yb + 1 = xb := ⟨_, rfl⟩
  rw [hyb, hxb] at HN3
  rw [hyb]
  have HXB := Lib.hid hxb
  clear hp H3 hi01 hi00 HN2 HW2 hyb hwK2 hKi hz1
  go_wp2_with fail
  go_loopw [5] (fun q wr => ∃ (i : Nat) (ls : List LineD) (vs : List (Value × Value)) (la : Value) (m : Nat), i ≤ j0 + 1 ∧ ls.length + i = j0 + 1 ∧ m + 40 * i ≤ n + 4 + 40 * (j0 + 1) ∧ q = .int .i64 (i : Int) ∧ Hid (ls.map (·.name) = nmsL (j0 + 1) i) ∧ Hid (∀ l ∈ ls, LineOk l Kn) ∧ Hid (NwSt w b m v yb xb Kn ls vs la wr)) (fun q _ => (RowKit.intOf q).toNat)
  case atStart => exact ⟨j0 + 1, [], [], .slice none 0 0, n + 2 + 2, by omega, by simp, by omega, by go_num, (by show _ = _; simp [nmsL]), (fun l hl => by simp at hl), HN3⟩
  case round =>
    clear HN3
    obtain ⟨wo, rfl⟩ : ∃ wo : World, wo = wr := ⟨_, rfl⟩
    obtain ⟨i1, ls, vs, la, m, hi3, hli, hmi, rfl, HNm, HOks, HN⟩ := hrel
    obtain ⟨oa, oc, rfl⟩ := own_shape HN.out.own.2.1
    have c1' := HN.out.c1
    have hf := HN.out.f
    have hlsn : ls.length ≤ 3 := by omega
    by_cases hi : 0 < i1
    · obtain ⟨i, rfl⟩ : ∃ i, i1 = i + 1 := ⟨i1 - 1, by omega⟩
      have hi1 : (0 : Int) < ((i + 1 : Nat) : Int) := by omega
      have hcat : (⟨#[108]⟩ : ByteArray) ++ ⟨(Lib.itoa ((i : Int) + 1)).toArray⟩ = nmL (i + 1) := by
        show (⟨[108].toArray⟩ : ByteArray) ++ ⟨(Lib.itoa ((i : Int) + 1)).toArray⟩ = _
        rw [ByteArray.mk_append_mk]; unfold nmL; push_cast; rfl
      have hlen : ¬ 9223372036854775807 < 1 + (Lib.itoa ((i : Int) + 1)).length := by
        have h := Lib.nDigits_le20 (i + 1) (by omega)
        rw [show ((i : Int) + 1) = ((i + 1 : Nat) : Int) by push_cast; rfl, Lib.itoa_nonneg, Lib.decDigits_length]
        omega
      go_wp2_with fail
      refine wp_region_until 11 (S := (fun w' => w'.cell? ⟨xb, 1, none⟩ = some (.slice oa ls.length oc))) (by kernel_rfl) ?_ (fun hHeld => ?_)
      · exact c1'
      refine wpAnyU_take (i := 0) (v := ?_) (by simp only [List.getElem?_toArray, List.getElem?_cons_zero]; rfl) (by kernel_rfl) (by kernel_rfl) (by kernel_rfl) (by kernel_rfl) (by kernel_rfl) (by exact fun _ _ _ h => h) (Or.inl ⟨by rfl, ?_⟩) (by assumption) ?_
      rotate_left
      · intro w' hSw; go_simp; try with_reducible rfl
      try simp only [Act.put, List.setIfInBounds_toArray, List.set_cons_zero, List.set_cons_succ]
      refine wpAnyU_take (i := 1) (v := ?_) (by simp only [List.getElem?_toArray, List.getElem?_cons_succ, List.getElem?_cons_zero]; rfl) (by kernel_rfl) (by kernel_rfl) (by kernel_rfl) (by kernel_rfl) (by kernel_rfl) (by exact fun _ _ _ h => h) (Or.inl ⟨by rfl, ?_⟩) (by assumption) ?_
      rotate_left
      · intro w' hSw; go_simp; try with_reducible rfl
      try simp only [Act.put, List.setIfInBounds_toArray, List.set_cons_zero, List.set_cons_succ]
      refine wpAnyU_take (i := 2) (v := ?_) (by simp only [List.getElem?_toArray, List.getElem?_cons_succ, List.getElem?_cons_zero]; rfl) (by kernel_rfl) (by kernel_rfl) (by kernel_rfl) (by kernel_rfl) (by kernel_rfl) (by exact fun _ _ _ h => h) (Or.inl ⟨by rfl, ?_⟩) (by assumption) ?_
      rotate_left
      · intro w' hSw; go_simp; try with_reducible rfl
      try simp only [Act.put, List.setIfInBounds_toArray, List.set_cons_zero, List.set_cons_succ]
      refine wpAnyU_take (i := 3) (v := ?_) (by simp only [List.getElem?_toArray, List.getElem?_cons_succ, List.getElem?_cons_zero]; rfl) (by kernel_rfl) (by kernel_rfl) (by kernel_rfl) (by kernel_rfl) (by kernel_rfl) (by exact fun _ _ _ h => h) (Or.inl ⟨by rfl, ?_⟩) (by assumption) ?_
      rotate_left
      · intro w' hSw; go_simp; try with_reducible rfl
      try simp only [Act.put, List.setIfInBounds_toArray, List.set_cons_zero, List.set_cons_succ]
      refine wpAnyU_take (i := 6) (v := ?_) (by simp only [List.getElem?_toArray, List.getElem?_cons_succ, List.getElem?_cons_zero]; rfl) (by kernel_rfl) (by kernel_rfl) (by kernel_rfl) (by kernel_rfl) (by kernel_rfl) (by exact fun _ _ _ h => h) (Or.inl ⟨by rfl, ?_⟩) (by assumption) ?_
      rotate_left
      · intro w' hSw; go_simp; try with_reducible rfl
      try simp only [Act.put, List.setIfInBounds_toArray, List.set_cons_zero, List.set_cons_succ]
      refine wpAnyU_ready (rs := [4]) (by kernel_rfl) (by simp) ?_
      refine AllReadyU.cons (by simp only [List.getElem?_toArray, List.getElem?_cons_succ, List.getElem?_cons_zero]; rfl) (fun K hK => ?_) AllReadyU.nil
      go_simp
      go_at_call 93
      refine (l1Num_any ((i : Int) + 1) wo.drew (by omega) (by omega)).mono ?_
      rintro e w1 ⟨rfl, hw⟩
      have hb : Below wo.heap.size wo w1 := by obtain ⟨m1, rfl⟩ := hw; exact (Below.refl _ _).drew.trans (show Below wo.drew.heap.size wo.drew (wo.drew.drewN m1) from Dr.below ⟨m1, rfl⟩)
      have HN1 := Lib.hid (HN.out.later HV.out hlt hb)
      have hz1 := hb.size
      clear hb hw
      have hS1 : w1.cell? ⟨xb, 1, none⟩ = some (.slice oa ls.length oc) := HN1.out.c1
      go_wp2_with fail
      refine hK.out _ _ hS1 (fun hH4 => ?_)
      clear hK K
      try simp only [Act.put, List.setIfInBounds_toArray, List.set_cons_zero, List.set_cons_succ]
      refine wpAnyU_take (i := 5) (v := ?_) (by simp only [List.getElem?_toArray, List.getElem?_cons_succ, List.getElem?_cons_zero]; rfl) (by kernel_rfl) (by kernel_rfl) (by kernel_rfl) (by kernel_rfl) (by kernel_rfl) (by exact fun _ _ _ h => h) (Or.inl ⟨by rfl, ?_⟩) (by assumption) ?_
      rotate_left
      · intro w' hSw; go_simp; try with_reducible rfl
      try simp only [Act.put, List.setIfInBounds_toArray, List.set_cons_zero, List.set_cons_succ]
      refine wpAnyU_ready (rs := [7]) (by kernel_rfl) (by simp) ?_
      refine AllReadyU.cons (by simp only [List.getElem?_toArray, List.getElem?_cons_succ, List.getElem?_cons_zero]; rfl) (fun K hK => ?_) AllReadyU.nil
      go_simp
      go_at_call 92
      refine (line_any b m v (nmL (i + 1)) Kn w1 HN1.out.cur.1 HN1.out.cur.2.1 (by omega) hK2 (by omega)).mono ?_
      rintro e w2 ⟨⟨l, sv, rv, rfl, hln, hok, hsr, hrr, hap⟩, hp⟩
      obtain ⟨sa, sc, rfl⟩ := own_shape hsr
      obtain ⟨ra, rc, rfl⟩ := own_shape hrr
      have HN2 := Lib.hid (HN1.out.cur' hlt hp)
      have HLn := Lib.hid hln
      have HOk := Lib.hid hok
      have HSr := Lib.hid hsr
      have HRr := Lib.hid hrr
      have HAp := Lib.hid hap
      have hla : ∀ q, (Value.slice oa ls.length oc).ownBlock = some q → q < w1.heap.size := fun q hq => (HN1.out.own.2.1.lt q hq).2
      have hxw : xb + 1 ≤ w1.heap.size := HN1.out.lt
      have hS2 : w2.cell? ⟨xb, 1, none⟩ = some (.slice oa ls.length oc) := HN2.out.c1
      clear hp hln hok hsr hrr hap
      go_wp2_with fail
      refine hK.out _ _ hS2 (fun hH7 => ?_)
      clear hK K
      try simp only [Act.put, List.setIfInBounds_toArray, List.set_cons_zero, List.set_cons_succ]
      refine wpAnyU_ready (rs := [8]) (by kernel_rfl) (by simp) ?_
      refine AllReadyU.cons (by simp only [List.getElem?_toArray, List.getElem?_cons_succ, List.getElem?_cons_zero]; rfl) (fun K hK => ?_) AllReadyU.nil
      go_simp
      have HNA := Lib.hid (HN2.out.alloc (.cells #[.string (nmL (i + 1)), .slice sa l.stops.length sc, .slice ra l.runs.length rc] 36))
      have hSA : (w2.alloc (.cells #[.string (nmL (i + 1)), .slice sa l.stops.length sc, .slice ra l.runs.length rc] 36)).cell? ⟨xb, 1, none⟩ = some (.slice oa ls.length oc) := HNA.out.c1
      have HSr2 := Lib.hid (HSr.out.alloc (.cells #[.string (nmL (i + 1)), .slice sa l.stops.length sc, .slice ra l.runs.length rc] 36))
      have HRr2 := Lib.hid (HRr.out.alloc (.cells #[.string (nmL (i + 1)), .slice sa l.stops.length sc, .slice ra l.runs.length rc] 36))
      refine hK.out _ _ hSA (fun hH8 => ?_)
      clear hK K
      try simp only [Act.put, List.setIfInBounds_toArray, List.set_cons_zero, List.set_cons_succ]
      refine wpAnyU_ready (rs := [9]) (by kernel_rfl) (by simp) ?_
      refine AllReadyU.cons (by simp only [List.getElem?_toArray, List.getElem?_cons_succ, List.getElem?_cons_zero]; rfl) (fun K hK => ?_) AllReadyU.nil
      obtain ⟨v', w3, hrun, HL3, b1, hf, -, g3, c3, hv3⟩ := HNA.out.app HV.out hlt (news5 w2 (.string (nmL (i + 1))) (.slice sa l.stops.length sc) (.slice ra l.runs.length rc)) HLn.out HSr2.out HRr2.out hxw hla (by omega)
      subst hv3
      have HN3 := Lib.hid HL3
      refine step_append_run rfl (.tmp 22) (.tmp 29) 25 rfl rfl rfl hrun ?_
      clear hrun HL3
      refine hK.out _ _ b1 (fun hH9 => ?_)
      clear hK K
      try simp only [Act.put, List.setIfInBounds_toArray, List.set_cons_zero, List.set_cons_succ]
      refine wpAnyU_take (i := 10) (v := ?_) (by simp only [List.getElem?_toArray, List.getElem?_cons_succ, List.getElem?_cons_zero]; rfl) (by kernel_rfl) (by kernel_rfl) (by kernel_rfl) (by kernel_rfl) (by kernel_rfl) (by exact fun _ _ _ h => h) (Or.inl ⟨by rfl, ?_⟩) (by assumption) ?_
      rotate_left
      · intro w' hSw; go_simp; try with_reducible rfl
      try simp only [Act.put, List.setIfInBounds_toArray, List.set_cons_zero, List.set_cons_succ]
      refine wpAnyU_ready (rs := [11]) (by kernel_rfl) (by simp) ?_
      refine AllReadyU.last (by simp only [List.getElem?_toArray, List.getElem?_cons_succ, List.getElem?_cons_zero]; rfl) (by kernel_rfl) (fun K hK => ?_)
      go_simp
      refine hK.out _ _ ?_
      clear hK K
      try simp only [Act.put, List.setIfInBounds_toArray, List.set_cons_zero, List.set_cons_succ]
      refine wpAnyU_done (by kernel_rfl) ?_ _
      clear hH4 hH7 hH8 hH9 hS1 hS2 hSA hHeld b1 hf
      obtain ⟨w4, hw4⟩ : ∃ w4 : World, w4 = w3.setCell ⟨xb, 1, none⟩ (.slice (some ⟨g3, 0, none⟩) (ls.length + 1) c3) := ⟨_, rfl⟩
      rw [← hw4] at HN3 ⊢
      clear hw4
      go_wp2_with fail
      go_roundw
      case rel => exact ⟨i, ls ++ [l], _, _, m + 40, by omega, by first | (simp; done) | (simp; omega), by omega, by go_num, (by show _ = _; rw [List.map_append, HNm.out]; simp only [List.map_cons, List.map_nil]; rw [HLn.out]; exact (nmsL_succ hi3).symm), (fun x hx => by rcases List.mem_append.1 hx with hx | hx; exact HOks.out x hx; simp at hx; subst hx; exact HOk.out), HN3⟩
      case measure => first | (simp [RowKit.intOf]; done) | (simp [RowKit.intOf]; omega)
    · obtain rfl : i1 = 0 := by omega
      have hi1 : ¬ (0 : Int) < ((0 : Nat) : Int) := by omega
      have H7 := Lib.hid (one_any b m v 2 wo HN.out.cur.1 HN.out.cur.2.1 (by omega) (by omega))
      have hi0 : 1 ≤ j0 + 1 := by omega
      have hi03 : j0 + 1 ≤ 3 := by omega
      go_wp2_with fail
      go_at_call 64
      refine H7.out.mono ?_
      rintro e wd ⟨⟨r, rfl⟩, hp⟩
      have HNd := Lib.hid (HN.out.cur' hlt hp)
      clear hp H7 HN c1' hf
      cases r
      · obtain ⟨wf, rfl⟩ : ∃ wf : World, wf = wd := ⟨_, rfl⟩
        have HNf := HNd
        have HOkf : Hid (NetGood ⟨names6.take Kn, ls⟩) := goodN hK2 hK6 hi0 hi03 HNm.out HOks.out
        have q0 := HNf.out.c0
        have q1 := HNf.out.c1
        obtain ⟨d, hd⟩ : ∃ d : NetD, d = ⟨names6.take Kn, ls⟩ := ⟨_, rfl⟩
        have HNet : Hid (NetAt wf (.agg #[.slice (some ⟨yb, 0, none⟩) Kn 6, .slice oa ls.length oc]) d) := by show NetAt _ _ _; rw [hd]; exact HNf.out.net (by omega)
        have HGo : Hid (NetGood d) := by show NetGood d; rw [hd]; exact HOkf.out
        have HOw := Lib.hid (l2OwnO_any (.agg #[.slice (some ⟨yb, 0, none⟩) Kn 6, .slice oa ls.length oc]) d wf HNet.out HGo.out)
        have hzf := HNf.out.z.2.2.1
        clear hd HNet
        go_wp2_with fail
        go_at_call 50
        refine HOw.out.mono ?_
        rintro e wg ⟨gS, cS, oa9, oc9, B9, rfl, hst, hls, hB9, hgS, hb⟩
        have HNg := Lib.hid (HNf.out.later HV.out hlt hb)
        obtain ⟨z0, z1, zl, zf⟩ := HNg.out.z
        have HFin := Lib.hid (HNg.out.fin HV.out hlt (.slice (some ⟨gS, 0, none⟩) d.stops.length cS) (.slice oa9 d.lines.length oc9) hzf hst hls hB9)
        clear hst hls hb q0 q1 HOw
        go_wp2_with fail
        exact bodyPost_ret (v := .agg #[.slice (some ⟨gS, 0, none⟩) d.stops.length cS, .slice oa9 d.lines.length oc9]) (by simp only [results, Try.results91]; go_simp) rfl ⟨⟨d, gS, cS, oa9, oc9, B9, rfl, HGo.out, HFin.out.1, HFin.out.2.1, HFin.out.2.2.1, hgS⟩, curPost_mono HFin.out.2.2.2 (by omega)⟩
      · have hl0 : 0 < ls.length := by omega
        obtain ⟨lg, rfl⟩ : ∃ lg, oa = some ⟨lg, 0, none⟩ := by
          rcases HNd.out.own.2.1.2 with ⟨hv, h0⟩ | ⟨g, cap, cur, hv, _⟩
          · omega
          · simp at hv; exact ⟨g, hv.1⟩
        have hvl : 0 < vs.length := by have := HNd.out.own.1; omega
        obtain ⟨e0, e1, e2⟩ := lnC_get ls vs 0 hl0 hvl
        have k0 := HNd.out.own.2.1.cellAt 0 (by omega)
        have k1 := HNd.out.own.2.1.cellAt 1 (by omega)
        have k2 := HNd.out.own.2.1.cellAt 2 (by omega)
        simp only [Nat.zero_mul, Nat.zero_add] at e0 e1 e2
        rw [e0] at k0
        rw [e1] at k1
        rw [e2] at k2
        have hrw := (HNd.out.own.2.2 0 hl0 hvl).1
        have hx0 := List.getElem_mem hl0
        obtain ⟨x, hxe⟩ : ∃ x, ls[0] = x := ⟨_, rfl⟩
        rw [hxe] at k0 hrw hx0
        obtain ⟨sa, sc, hsa⟩ := own_shape hrw.1
        obtain ⟨ra, rc, hra⟩ := own_shape hrw.2
        rw [hsa] at k1 hrw
        rw [hra] at k2 hrw
        have hok := HOks.out x hx0
        have HXl : Hid (x.stops.length ≤ 6 ∧ x.runs.length ≤ 6) := ⟨hok.1.2.1, by have := hok.1.2.2; have := hok.1.2.1; omega⟩
        obtain ⟨we, hwe⟩ : ∃ we : World, we = wd.alloc (.cells #[.string x.name, .slice sa x.stops.length sc, .slice ra x.runs.length rc] 36) := ⟨_, rfl⟩
        have hbe : Below wd.heap.size wd we := by rw [hwe]; exact (Below.refl _ _).alloc (Nat.le_refl _) _
        have HNe := Lib.hid (HNd.out.later HV.out hlt hbe)
        have d1' : we.cell? ⟨wd.heap.size, 1, none⟩ = some (.slice sa x.stops.length sc) := by rw [hwe]; go_simp
        have d2' : we.cell? ⟨wd.heap.size, 2, none⟩ = some (.slice ra x.runs.length rc) := by rw [hwe]; go_simp
        have HSrow : Hid (∀ W, Below we.heap.size we W → RowAt W (.slice sa x.stops.length sc) (ints x.stops)) := fun W hW => ((rowAt_own hrw.1).below rfl hbe).below rfl hW
        have HRrow : Hid (∀ W, Below we.heap.size we W → RowAt W (.slice ra x.runs.length rc) (ints x.runs)) := fun W hW => ((rowAt_own hrw.2).below rfl hbe).below rfl hW
        have hlq : ∀ q, (Value.slice (some ⟨lg, 0, none⟩) ls.length oc).ownBlock = some q → q < wd.heap.size := fun q hq => (HNd.out.own.2.1.lt q hq).2
        have hla : ∀ q, (Value.slice (some ⟨lg, 0, none⟩) ls.length oc).ownBlock = some q → q < we.heap.size := fun q hq => Nat.lt_of_lt_of_le (hlq q hq) hbe.size
        have hxw : xb + 1 ≤ we.heap.size := HNe.out.lt
        have q1 := HNd.out.c1
        have HWE := Lib.hid hwe
        clear hbe hwe e0 e1 e2 hsa hra hxe hrw hok
        go_wp2_with fail
        rw [← HWE.out]
        have c1' := HNe.out.c1
        have hf := HNe.out.f
        clear k0 k1 k2 q1 HNd HWE
        refine wp_region_until 12 (S := (fun w' => w'.cell? ⟨xb, 1, none⟩ = some (.slice (some ⟨lg, 0, none⟩) ls.length oc) ∧ w'.cell? ⟨wd.heap.size, 1, none⟩ = some (.slice sa x.stops.length sc) ∧ w'.cell? ⟨wd.heap.size, 2, none⟩ = some (.slice ra x.runs.length rc))) (by kernel_rfl) ?_ (fun hHeld => ?_)
        · exact ⟨c1', d1', d2'⟩
        refine wpAnyU_take (i := 0) (v := ?_) (by simp only [List.getElem?_toArray, List.getElem?_cons_zero]; rfl) (by kernel_rfl) (by kernel_rfl) (by kernel_rfl) (by kernel_rfl) (by kernel_rfl) (by exact fun _ _ _ h => h) (Or.inl ⟨by rfl, ?_⟩) (by assumption) ?_
        rotate_left
        · intro w' hSw; obtain ⟨e0, e1, e2⟩ := hSw
          go_simp; try with_reducible rfl
        try simp only [Act.put, List.setIfInBounds_toArray, List.set_cons_zero, List.set_cons_succ]
        refine wpAnyU_take (i := 1) (v := ?_) (by simp only [List.getElem?_toArray, List.getElem?_cons_succ, List.getElem?_cons_zero]; rfl) (by kernel_rfl) (by kernel_rfl) (by kernel_rfl) (by kernel_rfl) (by kernel_rfl) (by exact fun _ _ _ h => h) (Or.inl ⟨by rfl, ?_⟩) (by assumption) ?_
        rotate_left
        · intro w' hSw; obtain ⟨e0, e1, e2⟩ := hSw
          go_simp; try with_reducible rfl
        try simp only [Act.put, List.setIfInBounds_toArray, List.set_cons_zero, List.set_cons_succ]
        refine wpAnyU_take (i := 2) (v := ?_) (by simp only [List.getElem?_toArray, List.getElem?_cons_succ, List.getElem?_cons_zero]; rfl) (by kernel_rfl) (by kernel_rfl) (by kernel_rfl) (by kernel_rfl) (by kernel_rfl) (by exact fun _ _ _ h => h) (Or.inl ⟨by rfl, ?_⟩) (by assumption) ?_
        rotate_left
        · intro w' hSw; obtain ⟨e0, e1, e2⟩ := hSw
          go_simp; try with_reducible rfl
        try simp only [Act.put, List.setIfInBounds_toArray, List.set_cons_zero, List.set_cons_succ]
        refine wpAnyU_take (i := 3) (v := ?_) (by simp only [List.getElem?_toArray, List.getElem?_cons_succ, List.getElem?_cons_zero]; rfl) (by kernel_rfl) (by kernel_rfl) (by kernel_rfl) (by kernel_rfl) (by kernel_rfl) (by exact fun _ _ _ h => h) (Or.inl ⟨by rfl, ?_⟩) (by assumption) ?_
        rotate_left
        · intro w' hSw; obtain ⟨e0, e1, e2⟩ := hSw
          go_simp; try with_reducible rfl
        try simp only [Act.put, List.setIfInBounds_toArray, List.set_cons_zero, List.set_cons_succ]
        refine wpAnyU_take (i := 5) (v := ?_) (by simp only [List.getElem?_toArray, List.getElem?_cons_succ, List.getElem?_cons_zero]; rfl) (by kernel_rfl) (by kernel_rfl) (by kernel_rfl) (by kernel_rfl) (by kernel_rfl) (by exact fun _ _ _ h => h) (Or.inl ⟨by rfl, ?_⟩) (by assumption) ?_
        rotate_left
        · intro w' hSw; obtain ⟨e0, e1, e2⟩ := hSw
          go_simp; try with_reducible rfl
        try simp only [Act.put, List.setIfInBounds_toArray, List.set_cons_zero, List.set_cons_succ]
        refine wpAnyU_take (i := 6) (v := ?_) (by simp only [List.getElem?_toArray, List.getElem?_cons_succ, List.getElem?_cons_zero]; rfl) (by kernel_rfl) (by kernel_rfl) (by kernel_rfl) (by kernel_rfl) (by kernel_rfl) (by exact fun _ _ _ h => h) (Or.inl ⟨by rfl, ?_⟩) (by assumption) ?_
        rotate_left
        · intro w' hSw; obtain ⟨e0, e1, e2⟩ := hSw
          go_simp; try with_reducible rfl
        try simp only [Act.put, List.setIfInBounds_toArray, List.set_cons_zero, List.set_cons_succ]
        refine wpAnyU_ready (rs := [4]) (by kernel_rfl) (by simp) ?_
        refine AllReadyU.cons (by simp only [List.getElem?_toArray, List.getElem?_cons_succ, List.getElem?_cons_zero]; rfl) (fun K hK => ?_) AllReadyU.nil
        go_simp
        go_at_call 51
        refine (l2Back_any (.slice sa x.stops.length sc) x.stops we.drew (HSrow.out _ ((Below.refl _ _).drew)) (by have := HXl.out; omega)).mono ?_
        rintro e w7 ⟨v7, rfl, ho, hb⟩
        have hbb : Below we.heap.size we w7 := (Below.refl _ _).drew.trans hb
        obtain ⟨a7, k7, rfl⟩ := own_shape ho
        have HN7 := Lib.hid (HNe.out.later HV.out hlt hbb)
        have HB7 := Lib.hid hbb
        have HR7 := Lib.hid ho
        have hS7 : (w7.cell? ⟨xb, 1, none⟩ = some (.slice (some ⟨lg, 0, none⟩) ls.length oc) ∧ w7.cell? ⟨wd.heap.size, 1, none⟩ = some (.slice sa x.stops.length sc) ∧ w7.cell? ⟨wd.heap.size, 2, none⟩ = some (.slice ra x.runs.length rc)) := ⟨bkeep hbb hHeld.1, bkeep hbb hHeld.2.1, bkeep hbb hHeld.2.2⟩
        clear hb hbb ho
        go_wp2_with fail
        refine hK.out _ _ hS7 (fun hH4 => ?_)
        clear hK K
        try simp only [Act.put, List.setIfInBounds_toArray, List.set_cons_zero, List.set_cons_succ]
        refine wpAnyU_ready (rs := [7]) (by kernel_rfl) (by simp) ?_
        refine AllReadyU.cons (by simp only [List.getElem?_toArray, List.getElem?_cons_succ, List.getElem?_cons_zero]; rfl) (fun K hK => ?_) AllReadyU.nil
        go_simp
        go_at_call 51
        refine (l2Back_any (.slice ra x.runs.length rc) x.runs w7 (HRrow.out _ HB7.out) (by have := HXl.out; omega)).mono ?_
        rintro e w8 ⟨v8, rfl, ho, hb⟩
        have hbb : Below w7.heap.size w7 w8 := hb
        obtain ⟨a8, k8, rfl⟩ := own_shape ho
        have HN8 := Lib.hid (HN7.out.later HV.out hlt hbb)
        have HB8 := Lib.hid hbb
        have HR8 := Lib.hid ho
        have hS8 : (w8.cell? ⟨xb, 1, none⟩ = some (.slice (some ⟨lg, 0, none⟩) ls.length oc) ∧ w8.cell? ⟨wd.heap.size, 1, none⟩ = some (.slice sa x.stops.length sc) ∧ w8.cell? ⟨wd.heap.size, 2, none⟩ = some (.slice ra x.runs.length rc)) := ⟨bkeep hbb hS7.1, bkeep hbb hS7.2.1, bkeep hbb hS7.2.2⟩
        clear hb hbb ho
        go_wp2_with fail
        refine hK.out _ _ hS8 (fun hH7 => ?_)
        clear hK K
        try simp only [Act.put, List.setIfInBounds_toArray, List.set_cons_zero, List.set_cons_succ]
        refine wpAnyU_take (i := 8) (v := ?_) (by simp only [List.getElem?_toArray, List.getElem?_cons_succ, List.getElem?_cons_zero]; rfl) (by kernel_rfl) (by kernel_rfl) (by kernel_rfl) (by kernel_rfl) (by kernel_rfl) (by exact fun _ _ _ h => h) (Or.inl ⟨by rfl, ?_⟩) (by assumption) ?_
        rotate_left
        · intro w' hSw; obtain ⟨e0, e1, e2⟩ := hSw
          go_simp; try with_reducible rfl
        try simp only [Act.put, List.setIfInBounds_toArray, List.set_cons_zero, List.set_cons_succ]
        refine wpAnyU_ready (rs := [9]) (by kernel_rfl) (by simp) ?_
        refine AllReadyU.cons (by simp only [List.getElem?_toArray, List.getElem?_cons_succ, List.getElem?_cons_zero]; rfl) (fun K hK => ?_) AllReadyU.nil
        go_simp
        have HNA := Lib.hid (HN8.out.alloc (.cells #[.string ⟨#[114, 49]⟩, .slice a7 x.stops.length k7, .slice a8 x.runs.length k8] 36))
        have hab : Below w8.heap.size w8 (w8.alloc (.cells #[.string ⟨#[114, 49]⟩, .slice a7 x.stops.length k7, .slice a8 x.runs.length k8] 36)) := (Below.refl _ _).alloc (Nat.le_refl _) _
        have hSA : ((w8.alloc (.cells #[.string ⟨#[114, 49]⟩, .slice a7 x.stops.length k7, .slice a8 x.runs.length k8] 36)).cell? ⟨xb, 1, none⟩ = some (.slice (some ⟨lg, 0, none⟩) ls.length oc) ∧ (w8.alloc (.cells #[.string ⟨#[114, 49]⟩, .slice a7 x.stops.length k7, .slice a8 x.runs.length k8] 36)).cell? ⟨wd.heap.size, 1, none⟩ = some (.slice sa x.stops.length sc) ∧ (w8.alloc (.cells #[.string ⟨#[114, 49]⟩, .slice a7 x.stops.length k7, .slice a8 x.runs.length k8] 36)).cell? ⟨wd.heap.size, 2, none⟩ = some (.slice ra x.runs.length rc)) := ⟨bkeep hab hS8.1, bkeep hab hS8.2.1, bkeep hab hS8.2.2⟩
        have HSr2 : Hid ((w8.alloc (.cells #[.string ⟨#[114, 49]⟩, .slice a7 x.stops.length k7, .slice a8 x.runs.length k8] 36)).ownsRow we.heap.size 3 1 (.slice a7 x.stops.length k7) x.stops.reverse.length (ints x.stops.reverse)) := by
          show World.ownsRow _ _ _ _ _ _ _
          rw [List.length_reverse]; exact (own_later HR7.out HB8.out).alloc _
        have HRr2 : Hid ((w8.alloc (.cells #[.string ⟨#[114, 49]⟩, .slice a7 x.stops.length k7, .slice a8 x.runs.length k8] 36)).ownsRow we.heap.size 3 1 (.slice a8 x.runs.length k8) x.runs.reverse.length (ints x.runs.reverse)) := by
          show World.ownsRow _ _ _ _ _ _ _
          rw [List.length_reverse]; exact own_base (HR8.out.alloc _) HB7.out.size
        clear hab
        refine hK.out _ _ hSA (fun hH9 => ?_)
        clear hK K
        try simp only [Act.put, List.setIfInBounds_toArray, List.set_cons_zero, List.set_cons_succ]
        refine wpAnyU_ready (rs := [10]) (by kernel_rfl) (by simp) ?_
        refine AllReadyU.cons (by simp only [List.getElem?_toArray, List.getElem?_cons_succ, List.getElem?_cons_zero]; rfl) (fun K hK => ?_) AllReadyU.nil
        obtain ⟨v', w9, hrun, HL3, b1, hf, hg9, g3, c3, hv3⟩ := HNA.out.app (l := ⟨⟨#[114, 49]⟩, x.stops.reverse, x.runs.reverse⟩) HV.out hlt (news5 w8 (.string ⟨#[114, 49]⟩) (.slice a7 x.stops.length k7) (.slice a8 x.runs.length k8)) rfl HSr2.out HRr2.out hxw hla (by omega)
        subst hv3
        have HN9 := Lib.hid HL3
        have hS9 : (w9.cell? ⟨xb, 1, none⟩ = some (.slice (some ⟨lg, 0, none⟩) ls.length oc) ∧ w9.cell? ⟨wd.heap.size, 1, none⟩ = some (.slice sa x.stops.length sc) ∧ w9.cell? ⟨wd.heap.size, 2, none⟩ = some (.slice ra x.runs.length rc)) := ⟨b1, hg9.cell hSA.2.1 (fun e => by have := hlq _ e.symm; dsimp only at this; omega), hg9.cell hSA.2.2 (fun e => by have := hlq _ e.symm; dsimp only at this; omega)⟩
        refine step_append_run rfl (.tmp 39) (.tmp 47) 25 rfl rfl rfl hrun ?_
        clear hrun HL3 hg9
        refine hK.out _ _ hS9 (fun hH10 => ?_)
        clear hK K
        try simp only [Act.put, List.setIfInBounds_toArray, List.set_cons_zero, List.set_cons_succ]
        refine wpAnyU_take (i := 11) (v := ?_) (by simp only [List.getElem?_toArray, List.getElem?_cons_succ, List.getElem?_cons_zero]; rfl) (by kernel_rfl) (by kernel_rfl) (by kernel_rfl) (by kernel_rfl) (by kernel_rfl) (by exact fun _ _ _ h => h) (Or.inl ⟨by rfl, ?_⟩) (by assumption) ?_
        rotate_left
        · intro w' hSw; obtain ⟨e0, e1, e2⟩ := hSw
          go_simp; try with_reducible rfl
        try simp only [Act.put, List.setIfInBounds_toArray, List.set_cons_zero, List.set_cons_succ]
        refine wpAnyU_ready (rs := [12]) (by kernel_rfl) (by simp) ?_
        refine AllReadyU.last (by simp only [List.getElem?_toArray, List.getElem?_cons_succ, List.getElem?_cons_zero]; rfl) (by kernel_rfl) (fun K hK => ?_)
        go_simp
        refine hK.out _ _ ?_
        clear hK K
        try simp only [Act.put, List.setIfInBounds_toArray, List.set_cons_zero, List.set_cons_succ]
        refine wpAnyU_done (by kernel_rfl) ?_ _
        clear hH4 hH7 hH9 hH10 hS7 hS8 hSA hS9 hHeld b1 hf
        obtain ⟨wf, hwf⟩ : ∃ wf : World, wf = w9.setCell ⟨xb, 1, none⟩ (.slice (some ⟨g3, 0, none⟩) (ls.length + 1) c3) := ⟨_, rfl⟩
        rw [← hwf] at HN9 ⊢
        clear hwf
        have HNf := HN9
        have HOkf : Hid (NetGood ⟨names6.take Kn, ls ++ [⟨⟨#[114, 49]⟩, x.stops.reverse, x.runs.reverse⟩]⟩) := goodR hK2 hK6 hi0 hi03 HNm.out HOks.out hx0
        have q0 := HNf.out.c0
        have q1 := HNf.out.c1
        obtain ⟨d, hd⟩ : ∃ d : NetD, d = ⟨names6.take Kn, (ls ++ [⟨⟨#[114, 49]⟩, x.stops.reverse, x.runs.reverse⟩])⟩ := ⟨_, rfl⟩
        have HNet : Hid (NetAt wf (.agg #[.slice (some ⟨yb, 0, none⟩) Kn 6, .slice (some ⟨g3, 0, none⟩) (ls.length + 1) c3]) d) := by show NetAt _ _ _; rw [hd]; exact HNf.out.net (by omega)
        have HGo : Hid (NetGood d) := by show NetGood d; rw [hd]; exact HOkf.out
        have HOw := Lib.hid (l2OwnO_any (.agg #[.slice (some ⟨yb, 0, none⟩) Kn 6, .slice (some ⟨g3, 0, none⟩) (ls.length + 1) c3]) d wf HNet.out HGo.out)
        have hzf := HNf.out.z.2.2.1
        clear hd HNet
        go_wp2_with fail
        go_at_call 50
        refine HOw.out.mono ?_
        rintro e wg ⟨gS, cS, oa9, oc9, B9, rfl, hst, hls, hB9, hgS, hb⟩
        have HNg := Lib.hid (HNf.out.later HV.out hlt hb)
        obtain ⟨z0, z1, zl, zf⟩ := HNg.out.z
        have HFin := Lib.hid (HNg.out.fin HV.out hlt (.slice (some ⟨gS, 0, none⟩) d.stops.length cS) (.slice oa9 d.lines.length oc9) hzf hst hls hB9)
        clear hst hls hb q0 q1 HOw
        go_wp2_with fail
        exact bodyPost_ret (v := .agg #[.slice (some ⟨gS, 0, none⟩) d.stops.length cS, .slice oa9 d.lines.length oc9]) (by simp only [results, Try.results91]; go_simp) rfl ⟨⟨d, gS, cS, oa9, oc9, B9, rfl, HGo.out, HFin.out.1, HFin.out.2.1, HFin.out.2.2.1, hgS⟩, curPost_mono HFin.out.2.2.2 (by omega)⟩
end Go.Proofs.Ytemejcbilhcebaa

import Derived.Test.YtemejcbilhcebaaWalk
namespace Go.Proofs.Ytemejcbilhcebaa
set_option linter.unusedVariables false

def nextOf (x : WlkD) (s : Nat) : Option Nat := if (s : Int) = x.a then some x.b.toNat else if (s : Int) = x.b then some x.a.toNat else none

structure WksOk (n : Nat) (ws : List WlkD) : Prop where
  len : ws.length ≤ 12
  each : ∀ x ∈ ws, 0 ≤ x.a ∧ x.a < x.b ∧ x.b < (n : Int) ∧ 1 ≤ x.m ∧ x.m ≤ 120
  asc : ∀ i (h : i + 1 < ws.length), (ws[i]'(by omega)).a < (ws[i + 1]'h).a ∨ ((ws[i]'(by omega)).a = (ws[i + 1]'h).a ∧ (ws[i]'(by omega)).b < (ws[i + 1]'h).b)
theorem nextOf_lt {n : Nat} {ws : List WlkD} (hv : WksOk n ws) {x : WlkD} (hx : x ∈ ws) {s t : Nat} (h : nextOf x s = some t) : s < n ∧ t < n ∧ s ≠ t := by
  obtain ⟨h1, h2, h3, -, -⟩ := hv.each x hx
  unfold nextOf at h
  split at h
  · simp only [Option.some.injEq] at h; omega
  · split at h
    · simp only [Option.some.injEq] at h; omega
    · cases h

inductive Way (ws : List WlkD) (f : Nat) : Nat → Nat → Prop
  | here : Way ws f f 0
  | go {s k : Nat} (h : Way ws f s k) {x : WlkD} (hx : x ∈ ws) {t : Nat} (ht : nextOf x s = some t) : Way ws f t (k + x.m.toNat)

def IsWT (ws : List WlkD) (n f : Nat) (xs : List Int) : Prop :=
  xs.length = n ∧ ∀ s (h : s < xs.length), (xs[s] = -1 ∧ ∀ k, ¬ Way ws f s k) ∨ (∃ k : Nat, xs[s] = k ∧ Way ws f s k ∧ ∀ k', Way ws f s k' → k ≤ k')
theorem isWT_unique {ws : List WlkD} {n f : Nat} {xs ys : List Int} (h : IsWT ws n f xs) (g : IsWT ws n f ys) : xs = ys := by
  refine List.ext_getElem (h.1.trans g.1.symm) (fun s h1 h2 => ?_)
  rcases h.2 s h1 with ⟨e, hn⟩ | ⟨k, e, hk, hl⟩ <;> rcases g.2 s h2 with ⟨e', hn'⟩ | ⟨k', e', hk', hl'⟩
  · rw [e, e']
  · exact absurd hk' (hn k')
  · exact absurd hk (hn' k)
  · rw [e, e']; have := hl k' hk'; have := hl' k hk; congr 1; omega

noncomputable def wt (ws : List WlkD) (n f : Nat) : List Int := open Classical in if h : ∃ xs, IsWT ws n f xs then Classical.choose h else []
theorem wt_eq {ws : List WlkD} {n f : Nat} {xs : List Int} (h : IsWT ws n f xs) : wt ws n f = xs := by
  unfold wt
  rw [dif_pos ⟨xs, h⟩]
  exact isWT_unique (Classical.choose_spec (⟨xs, h⟩ : ∃ xs, IsWT ws n f xs)) h
def wat (xs : List Int) (s : Nat) : Int := xs.getD s (-1)
theorem wat_at {xs : List Int} {s : Nat} (h : s < xs.length) : wat xs s = xs[s] := by simp [wat, h]
theorem isWT_of_closed {n f : Nat} {ws : List WlkD} (hv : WksOk n ws) {xs : List Int} (hl : xs.length = n)
    (hs : ∀ s, s < n → wat xs s = -1 ∨ ∃ k : Nat, wat xs s = k ∧ Way ws f s k) (hf : wat xs f = 0)
    (hc : ∀ x ∈ ws, ∀ s t, nextOf x s = some t → 0 ≤ wat xs s → 0 ≤ wat xs t ∧ wat xs t ≤ wat xs s + x.m) : IsWT ws n f xs := by
  have key : ∀ s k, Way ws f s k → 0 ≤ wat xs s ∧ wat xs s ≤ k := by
    intro s k h
    induction h with
    | here => rw [hf]; exact ⟨Int.le_refl _, Int.le_refl _⟩
    | go h hx ht ih =>
      obtain ⟨h1, h2⟩ := hc _ hx _ _ ht ih.1
      have := (hv.each _ hx).2.2.2.1
      refine ⟨h1, ?_⟩
      have := ih.2
      push_cast
      omega
  refine ⟨hl, fun s h => ?_⟩
  rw [← wat_at h]
  rcases hs s (by omega) with h1 | ⟨k, h1, hw⟩
  · exact .inl ⟨h1, fun k hk => by have := (key s k hk).1; omega⟩
  · exact .inr ⟨k, h1, hw, fun k' hk' => by have := (key s k' hk').2; omega⟩
theorem IsWT.len {ws : List WlkD} {n f : Nat} {xs : List Int} (h : IsWT ws n f xs) : xs.length = n := h.1

def sumf (g : Int → Nat) : List Int → Nat
  | [] => 0
  | x :: xs => g x + sumf g xs
theorem sumf_set (g : Int → Nat) : ∀ (xs : List Int) (i : Nat) (v : Int) (h : i < xs.length), sumf g (xs.set i v) + g xs[i] = sumf g xs + g v
  | x :: xs, 0, v, _ => by simp [sumf]; omega
  | x :: xs, i + 1, v, h => by
    have := sumf_set g xs i v (by simpa using h)
    simp only [List.set_cons_succ, sumf, List.getElem_cons_succ]; omega
def cnt (xs : List Int) : Nat := sumf (fun x => if x < 0 then 0 else 1) xs
def mu (xs : List Int) : Nat := sumf (fun x => if x < 0 then 10000 else x.toNat) xs
theorem cnt_le : ∀ xs, cnt xs ≤ xs.length
  | [] => Nat.le_refl _
  | x :: xs => by
    have := cnt_le xs
    simp only [cnt, sumf, List.length_cons] at *; split <;> omega

structure Rlx (ws : List WlkD) (n f : Nat) (xs : List Int) : Prop where
  len : xs.length = n
  sound : ∀ s, s < n → wat xs s = -1 ∨ ∃ k : Nat, wat xs s = k ∧ Way ws f s k
  zero : wat xs f = 0
  bound : ∀ s, s < n → wat xs s ≤ 120 * (cnt xs : Int)
theorem wat_set {xs : List Int} {i : Nat} (h : i < xs.length) (v : Int) (s : Nat) : wat (xs.set i v) s = if s = i then v else wat xs s := by
  unfold wat
  rw [List.getD_eq_getElem?_getD, List.getElem?_set, List.getD_eq_getElem?_getD]
  by_cases e : i = s
  · subst e; simp [h]
  · simp [e, Ne.symm e]
theorem Rlx.step {ws : List WlkD} {n f : Nat} {xs : List Int} (h : Rlx ws n f xs) (hv : WksOk n ws) (hn : n ≤ 8) {x : WlkD} (hx : x ∈ ws) {s t : Nat} (ht : nextOf x s = some t)
    (h0 : 0 ≤ wat xs s) (h1 : wat xs t < 0 ∨ wat xs s + x.m < wat xs t) : Rlx ws n f (xs.set t (wat xs s + x.m)) ∧ mu (xs.set t (wat xs s + x.m)) < mu xs := by
  obtain ⟨hs, htn, hne⟩ := nextOf_lt hv hx ht
  have hm := (hv.each x hx).2.2.2
  have htl : t < xs.length := by rw [h.len]; exact htn
  have hbs := h.bound s hs
  have hbt := h.bound t htn
  have hcn := cnt_le xs
  have hlen := h.len
  have hc := sumf_set (fun x => if x < 0 then 0 else 1) xs t (wat xs s + x.m) htl
  have hmu := sumf_set (fun x => if x < 0 then 10000 else x.toNat) xs t (wat xs s + x.m) htl
  rw [← wat_at htl] at hc hmu
  have e : ¬ (wat xs s + x.m < 0) := by omega
  simp only [if_neg e] at hc hmu
  change cnt _ + _ = cnt _ + _ at hc
  change mu _ + _ = mu _ + _ at hmu
  have hsk := h.sound s hs
  refine ⟨⟨by simpa using h.len, fun q hq => ?_, ?_, fun q hq => ?_⟩, ?_⟩
  · rw [wat_set htl]
    split
    · rename_i e; subst e
      rcases hsk with h2 | ⟨k, h2, hw⟩
      · omega
      · refine .inr ⟨k + x.m.toNat, ?_, .go hw hx ht⟩
        rw [h2]; push_cast; omega
    · exact h.sound q hq
  · rw [wat_set htl]
    split
    · rename_i e; subst e
      have := h.zero
      omega
    · exact h.zero
  · rw [wat_set htl]
    split
    · rcases h1 with h1 | h1
      · simp only [if_pos h1] at hc; omega
      · split at hc <;> omega
    · have := h.bound q hq
      split at hc <;> omega
  · rcases h1 with h1 | h1
    · simp only [if_pos h1] at hmu; omega
    · split at hmu <;> omega
theorem Rlx.init {ws : List WlkD} {n f : Nat} (hf : f < n) : Rlx ws n f ((List.replicate n (-1)).set f 0) := by
  have hl : f < (List.replicate n (-1 : Int)).length := by simpa using hf
  have hw : ∀ s, wat (List.replicate n (-1 : Int)) s = -1 := fun s => by unfold wat; rw [List.getD_eq_getElem?_getD, List.getElem?_replicate]; split <;> rfl
  have hc := sumf_set (fun x => if x < 0 then 0 else 1) (List.replicate n (-1 : Int)) f 0 hl
  refine ⟨by simp, fun s hs => ?_, ?_, fun s hs => ?_⟩
  · rw [wat_set hl]; split
    · rename_i e; subst e; exact .inr ⟨0, rfl, .here⟩
    · exact .inl (hw s)
  · rw [wat_set hl, if_pos rfl]
  · rw [wat_set hl, hw]; split <;> omega

def ClosedAt (xs : List Int) (s t : Int) (m : Int) : Prop := 0 ≤ wat xs s.toNat → 0 ≤ wat xs t.toNat ∧ wat xs t.toNat ≤ wat xs s.toNat + m
theorem Rlx.isWT {ws : List WlkD} {n f : Nat} {xs : List Int} (h : Rlx ws n f xs) (hv : WksOk n ws)
    (hc : ∀ x ∈ ws, ClosedAt xs x.a x.b x.m ∧ ClosedAt xs x.b x.a x.m) : IsWT ws n f xs := by
  refine isWT_of_closed hv h.len h.sound h.zero (fun x hx s t ht h0 => ?_)
  obtain ⟨c1, c2⟩ := hc x hx
  obtain ⟨e1, e2, e3, -, -⟩ := hv.each x hx
  unfold nextOf at ht
  split at ht
  · rename_i e
    simp only [Option.some.injEq] at ht; subst ht
    have : s = x.a.toNat := by omega
    subst this; exact c1 h0
  · split at ht
    · rename_i e
      simp only [Option.some.injEq] at ht; subst ht
      have : s = x.b.toNat := by omega
      subst this; exact c2 h0
    · cases ht

abbrev Chn := List (Nat × Nat)
def sOf (p : Chn) : Nat := (p.headD (0, 0)).1
def mOf (p : Chn) : Nat := (p.headD (0, 0)).2

def IsChn (ws : List WlkD) (f : Nat) : Chn → Prop
  | [] => False
  | [(s, m)] => s = f ∧ m = 0
  | (t, k) :: (s, m) :: q => (∃ x ∈ ws, nextOf x s = some t ∧ k = m + x.m.toNat) ∧ IsChn ws f ((s, m) :: q)
theorem IsChn.way {ws : List WlkD} {f : Nat} : ∀ {p : Chn}, IsChn ws f p → Way ws f (sOf p) (mOf p)
  | [(s, m)], ⟨h1, h2⟩ => by subst h1; subst h2; exact .here
  | (t, k) :: (s, m) :: q, ⟨⟨x, hx, ht, hk⟩, h⟩ => by
    have := (IsChn.way h).go hx ht
    simp only [sOf, mOf, List.headD_cons] at *
    rw [hk]; exact this
theorem IsChn.ne {ws : List WlkD} {f : Nat} {p : Chn} (h : IsChn ws f p) : p ≠ [] := by
  intro e; subst e; exact h
theorem IsChn.ext {ws : List WlkD} {f : Nat} {p : Chn} (h : IsChn ws f p) {x : WlkD} (hx : x ∈ ws) {t : Nat} (ht : nextOf x (sOf p) = some t) : IsChn ws f ((t, mOf p + x.m.toNat) :: p) := by
  match p, h with
  | (s, m) :: q, h => exact ⟨⟨x, hx, ht, rfl⟩, h⟩
theorem IsChn.lt {n f : Nat} {ws : List WlkD} (hv : WksOk n ws) (hf : f < n) : ∀ {p : Chn}, IsChn ws f p → sOf p < n
  | [(s, m)], ⟨h1, h2⟩ => by simp only [sOf, List.headD_cons]; omega
  | (t, k) :: (s, m) :: q, ⟨⟨x, hx, ht, hk⟩, h⟩ => by simp only [sOf, List.headD_cons]; exact (nextOf_lt hv hx ht).2.1
theorem IsChn.bound {n f : Nat} {ws : List WlkD} (hv : WksOk n ws) : ∀ {p : Chn}, IsChn ws f p → mOf p ≤ 120 * p.length
  | [(s, m)], ⟨h1, h2⟩ => by simp only [mOf, List.headD_cons]; omega
  | (t, k) :: (s, m) :: q, ⟨⟨x, hx, ht, hk⟩, h⟩ => by
    have := IsChn.bound hv h
    have := (hv.each x hx).2.2.2
    simp only [mOf, List.headD_cons, List.length_cons] at *; omega

def aheadB (p o : Chn) : Bool := o.isEmpty || decide (mOf p < mOf o) || (decide (mOf p = mOf o) && decide (p.length < o.length))
def stepW (tk : List Chn → Chn → List Chn) (p : Chn) (σ : List Chn) (x : WlkD) : List Chn := match nextOf x (sOf p) with
  | none => σ
  | some t => tk σ ((t, mOf p + x.m.toNat) :: p)
def takeW (ws : List WlkD) : Nat → List Chn → Chn → List Chn
  | 0, σ, _ => σ
  | k + 1, σ, p => if aheadB p (σ.getD (sOf p) []) then ws.foldl (stepW (takeW ws k) p) (σ.set (sOf p) p) else σ
def cat (σ : List Chn) (s : Nat) : Chn := σ.getD s []
theorem cat_set {σ : List Chn} {i : Nat} (h : i < σ.length) (p : Chn) (s : Nat) : cat (σ.set i p) s = if s = i then p else cat σ s := by
  unfold cat
  rw [List.getD_eq_getElem?_getD, List.getElem?_set, List.getD_eq_getElem?_getD]
  by_cases e : i = s
  · subst e; simp [h]
  · simp [e, Ne.symm e]
theorem cat_at {σ : List Chn} {s : Nat} (h : s < σ.length) : cat σ s = σ[s] := by simp [cat, h]

structure SOk (ws : List WlkD) (n f : Nat) (σ : List Chn) : Prop where
  len : σ.length = n
  each : ∀ s, cat σ s = [] ∨ (IsChn ws f (cat σ s) ∧ sOf (cat σ s) = s)

def Upto (σ : List Chn) (s m : Nat) : Prop := cat σ s ≠ [] ∧ mOf (cat σ s) ≤ m

def Imp (σ σ' : List Chn) : Prop := ∀ s m, Upto σ s m → Upto σ' s m
theorem Imp.refl (σ : List Chn) : Imp σ σ := fun _ _ h => h
theorem Imp.trans {a b c : List Chn} (h : Imp a b) (g : Imp b c) : Imp a c := fun s m q => g s m (h s m q)
theorem Imp.set {σ : List Chn} {p : Chn} (hl : sOf p < σ.length) (hp : p ≠ []) (ha : aheadB p (cat σ (sOf p)) = true) : Imp σ (σ.set (sOf p) p) := by
  intro s m ⟨h1, h2⟩
  unfold Upto
  rw [cat_set hl]
  split
  · rename_i e; subst e
    refine ⟨hp, ?_⟩
    unfold aheadB at ha
    simp only [Bool.or_eq_true, Bool.and_eq_true, decide_eq_true_eq, List.isEmpty_iff] at ha
    rcases ha with (ha | ha) | ha
    · exact absurd ha h1
    · omega
    · omega
  · exact ⟨h1, h2⟩
theorem SOk.set {ws : List WlkD} {n f : Nat} {σ : List Chn} (h : SOk ws n f σ) {p : Chn} (hl : sOf p < n) (hp : IsChn ws f p) : SOk ws n f (σ.set (sOf p) p) := by
  refine ⟨by simpa using h.len, fun s => ?_⟩
  rw [cat_set (by rw [h.len]; exact hl)]
  split
  · rename_i e; subst e; exact .inr ⟨hp, rfl⟩
  · exact h.each s
theorem foldl_inv {α β : Type} (P : β → Prop) (g : β → α → β) : ∀ (xs : List α) (b : β), P b → (∀ b x, x ∈ xs → P b → P (g b x)) → P (xs.foldl g b)
  | [], b, h, _ => h
  | x :: xs, b, h, hs => foldl_inv P g xs (g b x) (hs b x (List.mem_cons_self ..) h) (fun b y hy hb => hs b y (List.mem_cons_of_mem _ hy) hb)
theorem takeW_ok {n f : Nat} {ws : List WlkD} (hv : WksOk n ws) (hf : f < n) : ∀ (k : Nat) (σ : List Chn) (p : Chn), SOk ws n f σ → IsChn ws f p → SOk ws n f (takeW ws k σ p) ∧ Imp σ (takeW ws k σ p)
  | 0, σ, p, h, hp => ⟨h, Imp.refl _⟩
  | k + 1, σ, p, h, hp => by
    unfold takeW
    split
    · rename_i ha
      refine foldl_inv (fun τ => SOk ws n f τ ∧ Imp σ τ) _ ws _ ⟨h.set (hp.lt hv hf) hp, Imp.set (by rw [h.len]; exact hp.lt hv hf) hp.ne ha⟩ (fun τ x hx ⟨h1, h2⟩ => ?_)
      unfold stepW
      split
      · exact ⟨h1, h2⟩
      · rename_i t ht
        obtain ⟨g1, g2⟩ := takeW_ok hv hf k τ _ h1 (hp.ext hx ht)
        exact ⟨g1, h2.trans g2⟩
    · exact ⟨h, Imp.refl _⟩

def Laid (σ : List Chn) : Chn → Prop
  | [] => True
  | x :: q => Upto σ x.1 x.2 ∧ Laid σ q
theorem Laid.imp {σ σ' : List Chn} (h : Imp σ σ') : ∀ {p : Chn}, Laid σ p → Laid σ' p
  | [], _ => trivial
  | x :: q, ⟨a, b⟩ => ⟨h _ _ a, Laid.imp h b⟩
def stopsOf (p : Chn) : List Nat := p.map (fun x => x.1)
theorem IsChn.tail_lt {n f : Nat} {ws : List WlkD} (hv : WksOk n ws) : ∀ {p : Chn}, IsChn ws f p → ∀ y ∈ p.tail, y.2 < mOf p
  | [(s, m)], _, y, hy => by simp at hy
  | (t, k) :: (s, m) :: q, ⟨⟨x, hx, ht, hk⟩, h⟩, y, hy => by
    have hm := (hv.each x hx).2.2.2
    have ih := IsChn.tail_lt hv h
    simp only [mOf, List.headD_cons, List.tail_cons, List.mem_cons] at *
    rcases hy with rfl | hy
    · omega
    · have := ih y hy; omega
theorem Laid.mem {σ : List Chn} : ∀ {p : Chn}, Laid σ p → ∀ y ∈ p, Upto σ y.1 y.2
  | x :: q, ⟨a, b⟩, y, hy => by
    rcases List.mem_cons.1 hy with rfl | hy
    · exact a
    · exact Laid.mem b y hy

theorem ahead_new {n f : Nat} {ws : List WlkD} (hv : WksOk n ws) {σ : List Chn} {p : Chn} (hp : IsChn ws f p) (hl : Laid σ p.tail) (ha : aheadB p (cat σ (sOf p)) = true) : sOf p ∉ stopsOf p.tail := by
  intro hm
  obtain ⟨y, hy, e⟩ := List.mem_map.1 hm
  obtain ⟨h1, h2⟩ := hl.mem y hy
  have h3 := hp.tail_lt hv y hy
  have e : y.1 = sOf p := e
  rw [e] at h1 h2
  unfold aheadB at ha
  simp only [Bool.or_eq_true, Bool.and_eq_true, decide_eq_true_eq, List.isEmpty_iff] at ha
  rcases ha with (ha | ha) | ha
  · exact h1 ha
  · omega
  · omega
theorem IsChn.all_lt {n f : Nat} {ws : List WlkD} (hv : WksOk n ws) (hf : f < n) : ∀ {p : Chn}, IsChn ws f p → ∀ y ∈ stopsOf p, y < n
  | [(s, m)], ⟨h1, h2⟩, y, hy => by simp [stopsOf] at hy; omega
  | (t, k) :: (s, m) :: q, ⟨⟨x, hx, ht, hk⟩, h⟩, y, hy => by
    simp only [stopsOf, List.map_cons, List.mem_cons] at hy
    rcases hy with rfl | hy
    · exact (nextOf_lt hv hx ht).2.1
    · exact IsChn.all_lt hv hf h y (by simpa [stopsOf] using hy)
theorem nodup_len : ∀ (n : Nat) (xs : List Nat), xs.Nodup → (∀ y ∈ xs, y < n) → xs.length ≤ n
  | 0, xs, _, hl => by
    match xs, hl with
    | [], _ => exact Nat.le_refl _
    | y :: ys, hl => exact absurd (hl y (List.mem_cons_self ..)) (Nat.not_lt_zero _)
  | n + 1, xs, hd, hl => by
    have h := nodup_len n (xs.erase n) (hd.erase n) (fun y hy => by
      have h1 := (hd.mem_erase_iff).1 hy
      have := hl y h1.2
      have := h1.1
      omega)
    rw [List.length_erase] at h
    split at h <;> omega

structure Ask (ws : List WlkD) (n f : Nat) (σ : List Chn) (p : Chn) : Prop where
  ok : SOk ws n f σ
  chn : IsChn ws f p
  laid : Laid σ p.tail
  nodup : (stopsOf p.tail).Nodup

theorem Ask.in {n f : Nat} {ws : List WlkD} {σ : List Chn} {p : Chn} (h : Ask ws n f σ p) (hv : WksOk n ws) (ha : aheadB p (cat σ (sOf p)) = true) : (stopsOf p).Nodup := by
  have := ahead_new hv h.chn h.laid ha
  match p, h.chn with
  | x :: q, _ => exact List.nodup_cons.2 ⟨this, h.nodup⟩
theorem Ask.len {n f : Nat} {ws : List WlkD} {σ : List Chn} {p : Chn} (h : Ask ws n f σ p) (hv : WksOk n ws) (hf : f < n) : p.length ≤ n + 1 := by
  match p, h with
  | [], h => simp
  | x :: q, h =>
    have : (stopsOf q).length ≤ n := nodup_len n _ h.nodup (fun y hy => h.chn.all_lt hv hf y (List.mem_cons_of_mem _ hy))
    simp only [stopsOf, List.length_map] at this
    simp only [List.length_cons]; omega
theorem Ask.done {n f : Nat} {ws : List WlkD} {σ : List Chn} {p : Chn} (h : Ask ws n f σ p) (hv : WksOk n ws) (hf : f < n) (hl : p.length = n + 1) : aheadB p (cat σ (sOf p)) = false := by
  cases hc : aheadB p (cat σ (sOf p)) with
  | false => rfl
  | true =>
    exfalso
    have hd := h.in hv hc
    have := nodup_len n _ hd (fun y hy => h.chn.all_lt hv hf y hy)
    simp only [stopsOf, List.length_map] at this
    omega
theorem laid_of {n f : Nat} {ws : List WlkD} {σ τ : List Chn} {p : Chn} (h : Ask ws n f σ p) (hv : WksOk n ws) (hf : f < n) (ha : aheadB p (cat σ (sOf p)) = true) (hi : Imp (σ.set (sOf p) p) τ) : Laid τ p := by
  have h0 : Imp σ (σ.set (sOf p) p) := Imp.set (by rw [h.ok.len]; exact h.chn.lt hv hf) h.chn.ne ha
  have hu : Upto (σ.set (sOf p) p) (sOf p) (mOf p) := by
    unfold Upto; rw [cat_set (by rw [h.ok.len]; exact h.chn.lt hv hf), if_pos rfl]; exact ⟨h.chn.ne, Nat.le_refl _⟩
  match p, h, hu with
  | x :: q, h, hu => exact ⟨hi _ _ hu, Laid.imp (h0.trans hi) h.laid⟩

theorem Ask.next {n f : Nat} {ws : List WlkD} {σ τ : List Chn} {p : Chn} (h : Ask ws n f σ p) (hv : WksOk n ws) (hf : f < n) (ha : aheadB p (cat σ (sOf p)) = true) (ho : SOk ws n f τ) (hi : Imp (σ.set (sOf p) p) τ) {x : WlkD} (hx : x ∈ ws) {t : Nat} (ht : nextOf x (sOf p) = some t) :
    Ask ws n f τ ((t, mOf p + x.m.toNat) :: p) := ⟨ho, h.chn.ext hx ht, laid_of h hv hf ha hi, h.in hv ha⟩
def RelAt (ws : List WlkD) (σ : List Chn) (a : Nat) : Prop := ∀ x ∈ ws, ∀ t, nextOf x a = some t → Upto σ t (mOf (cat σ a) + x.m.toNat)
theorem takeW_post {n f : Nat} {ws : List WlkD} (hv : WksOk n ws) (hf : f < n) : ∀ (k : Nat) (σ : List Chn) (p : Chn), Ask ws n f σ p → p.length + k = n + 1 →
    Upto (takeW ws k σ p) (sOf p) (mOf p) ∧ ∀ a, cat (takeW ws k σ p) a = cat σ a ∨ RelAt ws (takeW ws k σ p) a := by
  have notAhead : ∀ (σ : List Chn) (p : Chn), aheadB p (cat σ (sOf p)) = false → Upto σ (sOf p) (mOf p) := by
    intro σ p ha
    unfold aheadB at ha
    simp only [Bool.or_eq_false_iff, Bool.and_eq_false_iff, decide_eq_false_iff_not] at ha
    refine ⟨fun e => ?_, by omega⟩
    rw [e] at ha; simp at ha
  intro k
  induction k with
  | zero =>
    intro σ p h hl
    exact ⟨notAhead σ p (h.done hv hf (by omega)), fun a => .inl rfl⟩
  | succ k ih =>
    intro σ p h hl
    unfold takeW
    split
    · rename_i ha
      have ha : aheadB p (cat σ (sOf p)) = true := ha
      have hsl : sOf p < σ.length := by rw [h.ok.len]; exact h.chn.lt hv hf

      have loop : ∀ (ys zs : List WlkD), ys ++ zs = ws → ∀ τ, SOk ws n f τ → Imp (σ.set (sOf p) p) τ →
          (∀ a, a ≠ sOf p → cat τ a = cat σ a ∨ RelAt ws τ a) →
          ((cat τ (sOf p) = p ∧ ∀ x ∈ ys, ∀ t, nextOf x (sOf p) = some t → Upto τ t (mOf p + x.m.toNat)) ∨ RelAt ws τ (sOf p)) →
          (Upto (zs.foldl (stepW (takeW ws k) p) τ) (sOf p) (mOf p) ∧ ∀ a, cat (zs.foldl (stepW (takeW ws k) p) τ) a = cat σ a ∨ RelAt ws (zs.foldl (stepW (takeW ws k) p) τ) a) := by
        intro ys zs
        induction zs generalizing ys with
        | nil =>
          intro he τ ho hi hA hB
          simp only [List.append_nil] at he
          subst he
          simp only [List.foldl_nil]
          refine ⟨?_, fun a => ?_⟩
          · refine hi _ _ ?_
            unfold Upto; rw [cat_set hsl, if_pos rfl]; exact ⟨h.chn.ne, Nat.le_refl _⟩
          · by_cases e : a = sOf p
            · subst e
              rcases hB with ⟨h1, h2⟩ | hB
              · refine .inr (fun x hx t ht => ?_)
                rw [h1]; exact h2 x hx t ht
              · exact .inr hB
            · exact hA a e
        | cons x zs ihz =>
          intro he τ ho hi hA hB
          have hx : x ∈ ws := by rw [← he]; simp
          simp only [List.foldl_cons]
          cases hn : nextOf x (sOf p) with
          | none =>
            rw [show stepW (takeW ws k) p τ x = τ by unfold stepW; rw [hn]]
            refine ihz (ys ++ [x]) (by simpa using he) τ ho hi hA ?_
            rcases hB with ⟨h1, h2⟩ | hB
            · refine .inl ⟨h1, fun y hy t ht => ?_⟩
              rcases List.mem_append.1 hy with hy | hy
              · exact h2 y hy t ht
              · simp only [List.mem_singleton] at hy; subst hy; rw [hn] at ht; cases ht
            · exact .inr hB
          | some t =>
            rw [show stepW (takeW ws k) p τ x = takeW ws k τ ((t, mOf p + x.m.toNat) :: p) by unfold stepW; rw [hn]]
            have hask := h.next hv hf ha ho hi hx hn
            obtain ⟨g1, g2⟩ := takeW_ok hv hf k τ _ ho hask.chn
            obtain ⟨p1, p2⟩ := ih τ _ hask (by simp only [List.length_cons]; omega)
            have p1 : Upto (takeW ws k τ ((t, mOf p + x.m.toNat) :: p)) t (mOf p + x.m.toNat) := p1
            generalize takeW ws k τ ((t, mOf p + x.m.toNat) :: p) = τ' at *
            have rel : ∀ a, RelAt ws τ a → cat τ' a = cat τ a → RelAt ws τ' a := fun a hr e y hy u hu => by rw [e]; exact g2 _ _ (hr y hy u hu)
            refine ihz (ys ++ [x]) (by simpa using he) τ' g1 (hi.trans g2) (fun a hne => ?_) ?_
            · rcases p2 a with e | hr
              · rcases hA a hne with e2 | hr2
                · exact .inl (e.trans e2)
                · exact .inr (rel a hr2 e)
              · exact .inr hr
            · rcases p2 (sOf p) with e | hr
              · rcases hB with ⟨h1, h2⟩ | hr2
                · refine .inl ⟨e.trans h1, fun y hy u hu => ?_⟩
                  rcases List.mem_append.1 hy with hy | hy
                  · exact g2 _ _ (h2 y hy u hu)
                  · simp only [List.mem_singleton] at hy; subst hy; rw [hn] at hu; cases hu; exact p1
                · exact .inr (rel _ hr2 e)
              · exact .inr hr
      refine loop [] ws rfl _ (h.ok.set (h.chn.lt hv hf) h.chn) (Imp.refl _) (fun a hne => .inl ?_) (.inl ⟨?_, fun x hx => by cases hx⟩)
      · rw [cat_set hsl, if_neg hne]
      · rw [cat_set hsl, if_pos rfl]
    · rename_i ha
      exact ⟨notAhead σ p (by simpa [cat] using ha), fun a => .inl rfl⟩

def firstW (ws : List WlkD) (n f : Nat) : List Chn := takeW ws n (List.replicate n []) [(f, 0)]
def minT (q : Chn) : Int := if q.isEmpty then -1 else (mOf q : Int)
theorem ask_first {n f : Nat} {ws : List WlkD} : Ask ws n f (List.replicate n []) [(f, 0)] :=
  ⟨⟨by simp, fun s => .inl (by unfold cat; rw [List.getD_eq_getElem?_getD, List.getElem?_replicate]; split <;> rfl)⟩, ⟨rfl, rfl⟩, trivial, List.nodup_nil⟩
theorem firstW_isWT {n f : Nat} {ws : List WlkD} (hv : WksOk n ws) (hf : f < n) : IsWT ws n f ((firstW ws n f).map minT) := by
  have hask : Ask ws n f (List.replicate n []) [(f, 0)] := ask_first
  obtain ⟨ho, hi⟩ := takeW_ok hv hf n _ _ hask.ok hask.chn
  obtain ⟨hu, hr⟩ := takeW_post hv hf n _ _ hask (by simp only [List.length_cons, List.length_nil]; omega)
  change SOk ws n f (firstW ws n f) at ho
  change Upto (firstW ws n f) f 0 at hu
  change ∀ a, cat (firstW ws n f) a = _ ∨ RelAt ws (firstW ws n f) a at hr
  generalize firstW ws n f = σ at *
  have hw : ∀ s, s < n → wat (σ.map minT) s = minT (cat σ s) := fun s hs => by
    rw [wat_at (by simpa [ho.len] using hs), List.getElem_map, cat_at (by rw [ho.len]; exact hs)]
  refine isWT_of_closed hv (by simpa using ho.len) (fun s hs => ?_) ?_ (fun x hx s t ht h0 => ?_)
  · rw [hw s hs]
    rcases ho.each s with e | ⟨hc, e⟩
    · rw [e]; exact .inl rfl
    · have := hc.way
      rw [e] at this
      refine .inr ⟨mOf (cat σ s), ?_, this⟩
      unfold minT; rw [if_neg (by simpa using hc.ne)]
  · rw [hw f hf]
    unfold minT; rw [if_neg (by simpa using hu.1)]
    have := hu.2; omega
  · obtain ⟨hs, htn, -⟩ := nextOf_lt hv hx ht
    rw [hw s hs] at h0 ⊢
    rw [hw t htn]
    rcases hr s with e | hr
    · exfalso
      have e0 : cat (List.replicate n ([] : Chn)) s = [] := by unfold cat; rw [List.getD_eq_getElem?_getD, List.getElem?_replicate]; split <;> rfl
      rw [e, e0] at h0
      simp [minT] at h0
    · obtain ⟨h1, h2⟩ := hr x hx t ht
      have hne : ¬ (cat σ s).isEmpty = true := by
        intro e; unfold minT at h0; rw [if_pos e] at h0; omega
      have hm := (hv.each x hx).2.2.2
      unfold minT
      rw [if_neg (by simpa using h1), if_neg hne]
      omega
theorem firstW_ok {n f : Nat} {ws : List WlkD} (hv : WksOk n ws) (hf : f < n) : SOk ws n f (firstW ws n f) := (takeW_ok hv hf n _ _ (ask_first (ws := ws) (n := n) (f := f)).ok (ask_first (ws := ws) (n := n) (f := f)).chn).1
theorem firstW_wt {n f : Nat} {ws : List WlkD} (hv : WksOk n ws) (hf : f < n) : wt ws n f = (firstW ws n f).map minT := wt_eq (firstW_isWT hv hf)
end Go.Proofs.Ytemejcbilhcebaa

import Derived.Test.YtemejcbilhcebaaWayP
namespace Go.Proofs.Ytemejcbilhcebaa
set_option linter.unusedVariables false

def LexLe : List Nat → List Nat → Prop
  | [], _ => True
  | _ :: _, [] => False
  | a :: x, b :: y => a < b ∨ (a = b ∧ LexLe x y)
theorem LexLe.refl : ∀ x, LexLe x x
  | [] => trivial
  | a :: x => .inr ⟨rfl, LexLe.refl x⟩
theorem LexLe.trans : ∀ {x y z : List Nat}, LexLe x y → LexLe y z → LexLe x z
  | [], _, _, _, _ => trivial
  | _ :: _, [], _, h, _ => h.elim
  | _ :: _, _ :: _, [], _, g => g.elim
  | a :: x, b :: y, c :: z, h, g => by
    rcases h with h | ⟨h, h2⟩ <;> rcases g with g | ⟨g, g2⟩
    · exact .inl (by omega)
    · exact .inl (by omega)
    · exact .inl (by omega)
    · exact .inr ⟨by omega, LexLe.trans h2 g2⟩
theorem LexLe.antisymm : ∀ {x y : List Nat}, LexLe x y → LexLe y x → x = y
  | [], [], _, _ => rfl
  | [], _ :: _, _, h => h.elim
  | _ :: _, [], h, _ => h.elim
  | a :: x, b :: y, h, g => by
    rcases h with h | ⟨h, h2⟩ <;> rcases g with g | ⟨g, g2⟩
    · omega
    · omega
    · omega
    · rw [h, LexLe.antisymm h2 g2]
theorem LexLe.append : ∀ (x y : List Nat), LexLe x (x ++ y)
  | [], y => trivial
  | a :: x, y => .inr ⟨rfl, LexLe.append x y⟩
theorem LexLe.branch : ∀ (x o : List Nat) {t t' : Nat} (h : t' < t) (ho : (x ++ [t']) <+: o), LexLe o (x ++ [t])
  | [], o, t, t', h, ⟨r, e⟩ => by subst e; exact .inl h
  | a :: x, o, t, t', h, ⟨r, e⟩ => by
    subst e
    exact .inr ⟨rfl, LexLe.branch x _ h ⟨r, rfl⟩⟩
theorem LexLe.snoc : ∀ {x y : List Nat} (t : Nat), LexLe x y → x.length = y.length → LexLe (x ++ [t]) (y ++ [t])
  | [], [], t, _, _ => LexLe.refl _
  | [], _ :: _, t, _, h => by simp at h
  | _ :: _, [], t, h, _ => h.elim
  | a :: x, b :: y, t, h, hl => by
    rcases h with h | ⟨h, h2⟩
    · exact .inl h
    · exact .inr ⟨h, LexLe.snoc t h2 (by simpa using hl)⟩
def fw (p : Chn) : List Nat := (stopsOf p).reverse
theorem fw_cons (x : Nat × Nat) (p : Chn) : fw (x :: p) = fw p ++ [x.1] := by simp [fw, stopsOf]
theorem fw_len (p : Chn) : (fw p).length = p.length := by simp [fw, stopsOf]
def LeC (o p : Chn) : Prop := mOf o < mOf p ∨ (mOf o = mOf p ∧ (o.length < p.length ∨ (o.length = p.length ∧ LexLe (fw o) (fw p))))
theorem LeC.refl (p : Chn) : LeC p p := .inr ⟨rfl, .inr ⟨rfl, LexLe.refl _⟩⟩
theorem LeC.trans {a b c : Chn} (h : LeC a b) (g : LeC b c) : LeC a c := by
  rcases h with h | ⟨h, h2⟩ <;> rcases g with g | ⟨g, g2⟩
  · exact .inl (by omega)
  · exact .inl (by omega)
  · exact .inl (by omega)
  · refine .inr ⟨by omega, ?_⟩
    rcases h2 with h2 | ⟨h2, h3⟩ <;> rcases g2 with g2 | ⟨g2, g3⟩
    · exact .inl (by omega)
    · exact .inl (by omega)
    · exact .inl (by omega)
    · exact .inr ⟨by omega, h3.trans g3⟩
theorem LeC.ext {o p : Chn} (h : LeC o p) (t c : Nat) : LeC ((t, mOf o + c) :: o) ((t, mOf p + c) :: p) := by
  unfold LeC
  simp only [mOf, List.headD_cons, List.length_cons, fw_cons] at *
  rcases h with h | ⟨h, h2⟩
  · exact .inl (by simp only [mOf] at h; omega)
  · simp only [mOf] at h
    refine .inr ⟨by omega, ?_⟩
    rcases h2 with h2 | ⟨h2, h3⟩
    · exact .inl (by omega)
    · exact .inr ⟨by omega, h3.snoc t (by rw [fw_len, fw_len]; exact h2)⟩
theorem LeC.of_ahead {p o : Chn} (h : aheadB p o = true) (ho : o ≠ []) : LeC p o := by
  unfold aheadB at h
  simp only [Bool.or_eq_true, Bool.and_eq_true, decide_eq_true_eq, List.isEmpty_iff] at h
  rcases h with (h | h) | h
  · exact absurd h ho
  · exact .inl h
  · exact .inr ⟨h.1, .inl h.2⟩
theorem LeC.of_not {p o : Chn} (h : aheadB p o = false) (hl : LexLe (fw o) (fw p)) : LeC o p := by
  unfold aheadB at h
  simp only [Bool.or_eq_false_iff, Bool.and_eq_false_iff, decide_eq_false_iff_not] at h
  obtain ⟨⟨h1, h2⟩, h3⟩ := h
  unfold LeC
  by_cases e : mOf o < mOf p
  · exact .inl e
  · have e2 : mOf p = mOf o := by omega
    refine .inr ⟨e2.symm, ?_⟩
    rcases h3 with h3 | h3
    · exact absurd e2 h3
    · by_cases e3 : o.length < p.length
      · exact .inl e3
      · exact .inr ⟨by omega, hl⟩

def UptoC (σ : List Chn) (s : Nat) (p : Chn) : Prop := cat σ s ≠ [] ∧ LeC (cat σ s) p
def ImpC (σ σ' : List Chn) : Prop := ∀ s p, UptoC σ s p → UptoC σ' s p
theorem ImpC.refl (σ : List Chn) : ImpC σ σ := fun _ _ h => h
theorem ImpC.trans {a b c : List Chn} (h : ImpC a b) (g : ImpC b c) : ImpC a c := fun s m q => g s m (h s m q)
theorem ImpC.set {σ : List Chn} {p : Chn} (hl : sOf p < σ.length) (hp : p ≠ []) (ha : aheadB p (cat σ (sOf p)) = true) : ImpC σ (σ.set (sOf p) p) := by
  intro s m ⟨h1, h2⟩
  unfold UptoC
  rw [cat_set hl]
  split
  · rename_i e; subst e
    exact ⟨hp, (LeC.of_ahead ha h1).trans h2⟩
  · exact ⟨h1, h2⟩
theorem takeW_impC {n f : Nat} {ws : List WlkD} (hv : WksOk n ws) (hf : f < n) : ∀ (k : Nat) (σ : List Chn) (p : Chn), SOk ws n f σ → IsChn ws f p → ImpC σ (takeW ws k σ p)
  | 0, σ, p, h, hp => ImpC.refl _
  | k + 1, σ, p, h, hp => by
    unfold takeW
    split
    · rename_i ha
      refine (foldl_inv (fun τ => SOk ws n f τ ∧ ImpC σ τ) _ ws _ ⟨h.set (hp.lt hv hf) hp, ImpC.set (by rw [h.len]; exact hp.lt hv hf) hp.ne ha⟩ (fun τ x hx ⟨h1, h2⟩ => ?_)).2
      unfold stepW
      split
      · exact ⟨h1, h2⟩
      · rename_i t ht
        exact ⟨(takeW_ok hv hf k τ _ h1 (hp.ext hx ht)).1, h2.trans (takeW_impC hv hf k τ _ h1 (hp.ext hx ht))⟩
    · exact ImpC.refl _

theorem takeW_pre {n f : Nat} {ws : List WlkD} (hv : WksOk n ws) (hf : f < n) : ∀ (k : Nat) (σ : List Chn) (p : Chn), SOk ws n f σ → IsChn ws f p → ∀ s, cat (takeW ws k σ p) s = cat σ s ∨ fw p <+: fw (cat (takeW ws k σ p) s)
  | 0, σ, p, h, hp => fun s => .inl rfl
  | k + 1, σ, p, h, hp => by
    unfold takeW
    split
    · rename_i ha
      have hl : sOf p < σ.length := by rw [h.len]; exact hp.lt hv hf
      refine (foldl_inv (fun τ => SOk ws n f τ ∧ ∀ s, cat τ s = cat σ s ∨ fw p <+: fw (cat τ s)) _ ws _ ⟨h.set (hp.lt hv hf) hp, fun s => ?_⟩ (fun τ x hx ⟨h1, h2⟩ => ?_)).2
      · rw [cat_set hl]; split
        · exact .inr (List.prefix_refl _)
        · exact .inl rfl
      · unfold stepW
        split
        · exact ⟨h1, h2⟩
        · rename_i t ht
          refine ⟨(takeW_ok hv hf k τ _ h1 (hp.ext hx ht)).1, fun s => ?_⟩
          rcases takeW_pre hv hf k τ _ h1 (hp.ext hx ht) s with e | e
          · rw [e]; exact h2 s
          · refine .inr (List.IsPrefix.trans ?_ e)
            rw [fw_cons]; exact List.prefix_append _ _
    · exact fun s => .inl rfl

def OrdS (σ : List Chn) (p : Chn) : Prop := ∀ s, LexLe (fw (cat σ s)) (fw p)

def NdS (σ : List Chn) : Prop := ∀ s, (stopsOf (cat σ s)).Nodup

theorem next_asc {n : Nat} {ws : List WlkD} (hv : WksOk n ws) : ∀ (i j : Nat) (hij : i < j) (hj : j < ws.length) {a t u : Nat}, nextOf (ws[i]'(by omega)) a = some t → nextOf (ws[j]'hj) a = some u → t < u := by
  have asc : ∀ (j i : Nat) (hij : i < j) (hj : j < ws.length), (ws[i]'(by omega)).a < (ws[j]'hj).a ∨ ((ws[i]'(by omega)).a = (ws[j]'hj).a ∧ (ws[i]'(by omega)).b < (ws[j]'hj).b) := by
    intro j
    induction j with
    | zero => intro i hij; omega
    | succ j ih =>
      intro i hij hj
      have h1 := hv.asc j hj
      by_cases e : i = j
      · subst e; exact h1
      · have h2 := ih i (by omega) (by omega)
        omega
  intro i j hij hj a t u ht hu
  have h := asc j i hij hj
  have h1 := hv.each (ws[i]'(by omega)) (List.getElem_mem _)
  have h2 := hv.each (ws[j]'hj) (List.getElem_mem _)
  generalize (ws[i]'(by omega)) = x at *
  generalize (ws[j]'hj) = y at *
  unfold nextOf at ht hu
  split at ht <;> split at hu
  · simp only [Option.some.injEq] at ht hu; omega
  · split at hu
    · simp only [Option.some.injEq] at ht hu; omega
    · cases hu
  · split at ht
    · simp only [Option.some.injEq] at ht hu; omega
    · cases ht
  · split at ht
    · split at hu
      · simp only [Option.some.injEq] at ht hu; omega
      · cases hu
    · cases ht
theorem next_inj {n : Nat} {ws : List WlkD} (hv : WksOk n ws) {x y : WlkD} (hx : x ∈ ws) (hy : y ∈ ws) {a t : Nat} (h : nextOf x a = some t) (g : nextOf y a = some t) : x = y := by
  obtain ⟨i, hi, rfl⟩ := List.getElem_of_mem hx
  obtain ⟨j, hj, rfl⟩ := List.getElem_of_mem hy
  rcases Nat.lt_trichotomy i j with e | e | e
  · have := next_asc hv i j e hj h g; omega
  · subst e; rfl
  · have := next_asc hv j i e hi g h; omega
def RelC (ws : List WlkD) (σ : List Chn) (a : Nat) : Prop := ∀ x ∈ ws, ∀ t, nextOf x a = some t → UptoC σ t ((t, mOf (cat σ a) + x.m.toNat) :: cat σ a)
theorem takeW_nd {n f : Nat} {ws : List WlkD} (hv : WksOk n ws) (hf : f < n) : ∀ (k : Nat) (σ : List Chn) (p : Chn), Ask ws n f σ p → NdS σ → NdS (takeW ws k σ p)
  | 0, σ, p, _, h => h
  | k + 1, σ, p, h, hn => by
    unfold takeW
    split
    · rename_i ha
      have ha : aheadB p (cat σ (sOf p)) = true := ha
      have hsl : sOf p < σ.length := by rw [h.ok.len]; exact h.chn.lt hv hf
      refine (foldl_inv (fun τ => (SOk ws n f τ ∧ Imp (σ.set (sOf p) p) τ) ∧ NdS τ) _ ws _ ⟨⟨h.ok.set (h.chn.lt hv hf) h.chn, Imp.refl _⟩, fun s => ?_⟩ (fun τ x hx ⟨⟨h1, h2⟩, h3⟩ => ?_)).2
      · rw [cat_set hsl]; split
        · exact h.in hv ha
        · exact hn s
      · unfold stepW
        split
        · exact ⟨⟨h1, h2⟩, h3⟩
        · rename_i t ht
          have hask := h.next hv hf ha h1 h2 hx ht
          obtain ⟨g1, g2⟩ := takeW_ok hv hf k τ _ h1 hask.chn
          exact ⟨⟨g1, h2.trans g2⟩, takeW_nd hv hf k τ _ hask h3⟩
    · exact hn
theorem takeW_postC {n f : Nat} {ws : List WlkD} (hv : WksOk n ws) (hf : f < n) : ∀ (k : Nat) (σ : List Chn) (p : Chn), Ask ws n f σ p → OrdS σ p → p.length + k = n + 1 →
    UptoC (takeW ws k σ p) (sOf p) p ∧ ∀ a, cat (takeW ws k σ p) a = cat σ a ∨ RelC ws (takeW ws k σ p) a := by
  have notAhead : ∀ (σ : List Chn) (p : Chn), OrdS σ p → aheadB p (cat σ (sOf p)) = false → UptoC σ (sOf p) p := by
    intro σ p ho ha
    refine ⟨fun e => ?_, LeC.of_not ha (ho _)⟩
    rw [e] at ha; simp [aheadB] at ha
  intro k
  induction k with
  | zero =>
    intro σ p h ho hl
    exact ⟨notAhead σ p ho (h.done hv hf (by omega)), fun a => .inl rfl⟩
  | succ k ih =>
    intro σ p h hord hl
    unfold takeW
    split
    · rename_i ha
      have ha : aheadB p (cat σ (sOf p)) = true := ha
      have hsl : sOf p < σ.length := by rw [h.ok.len]; exact h.chn.lt hv hf
      have loop : ∀ (zs ys : List WlkD), ys ++ zs = ws → ∀ τ, SOk ws n f τ → Imp (σ.set (sOf p) p) τ → ImpC (σ.set (sOf p) p) τ →
          (∀ s, LexLe (fw (cat τ s)) (fw p) ∨ ∃ x ∈ ys, ∃ t, nextOf x (sOf p) = some t ∧ (fw p ++ [t]) <+: fw (cat τ s)) →
          (∀ a, a ≠ sOf p → cat τ a = cat σ a ∨ RelC ws τ a) →
          ((cat τ (sOf p) = p ∧ ∀ x ∈ ys, ∀ t, nextOf x (sOf p) = some t → UptoC τ t ((t, mOf p + x.m.toNat) :: p)) ∨ RelC ws τ (sOf p)) →
          (UptoC (zs.foldl (stepW (takeW ws k) p) τ) (sOf p) p ∧ ∀ a, cat (zs.foldl (stepW (takeW ws k) p) τ) a = cat σ a ∨ RelC ws (zs.foldl (stepW (takeW ws k) p) τ) a) := by
        intro zs
        induction zs with
        | nil =>
          intro ys he τ ho hi hiC hO hA hB
          simp only [List.append_nil] at he
          subst he
          simp only [List.foldl_nil]
          refine ⟨?_, fun a => ?_⟩
          · refine hiC _ _ ?_
            unfold UptoC; rw [cat_set hsl, if_pos rfl]; exact ⟨h.chn.ne, LeC.refl _⟩
          · by_cases e : a = sOf p
            · subst e
              rcases hB with ⟨h1, h2⟩ | hB
              · refine .inr (fun x hx t ht => ?_)
                rw [h1]; exact h2 x hx t ht
              · exact .inr hB
            · exact hA a e
        | cons x zs ihz =>
          intro ys he τ ho hi hiC hO hA hB
          have hx : x ∈ ws := by rw [← he]; simp
          simp only [List.foldl_cons]
          cases hn : nextOf x (sOf p) with
          | none =>
            rw [show stepW (takeW ws k) p τ x = τ by unfold stepW; rw [hn]]
            refine ihz (ys ++ [x]) (by simpa using he) τ ho hi hiC (fun s => ?_) hA ?_
            · rcases hO s with h1 | ⟨y, hy, h1⟩
              · exact .inl h1
              · exact .inr ⟨y, List.mem_append_left _ hy, h1⟩
            · rcases hB with ⟨h1, h2⟩ | hB
              · refine .inl ⟨h1, fun y hy t ht => ?_⟩
                rcases List.mem_append.1 hy with hy | hy
                · exact h2 y hy t ht
                · simp only [List.mem_singleton] at hy; subst hy; rw [hn] at ht; cases ht
              · exact .inr hB
          | some t =>
            rw [show stepW (takeW ws k) p τ x = takeW ws k τ ((t, mOf p + x.m.toNat) :: p) by unfold stepW; rw [hn]]
            have hask := h.next hv hf ha ho hi hx hn
            obtain ⟨g1, g2⟩ := takeW_ok hv hf k τ _ ho hask.chn
            have g3 := takeW_impC hv hf k τ _ ho hask.chn
            have g4 := takeW_pre hv hf k τ _ ho hask.chn
            have hordn : OrdS τ ((t, mOf p + x.m.toNat) :: p) := fun s => by
              rw [fw_cons]
              rcases hO s with h1 | ⟨y, hy, t', ht', h1⟩
              · exact h1.trans (LexLe.append _ _)
              · refine LexLe.branch _ _ ?_ h1
                obtain ⟨i, hi', rfl⟩ := List.getElem_of_mem hy
                have e1 : ws[i]'(by rw [← he]; simp; omega) = ys[i] := by simp only [← he]; rw [List.getElem_append_left hi']
                have e2 : ws[ys.length]'(by rw [← he]; simp) = x := by simp only [← he]; rw [List.getElem_append_right (Nat.le_refl _)]; simp
                exact next_asc hv i ys.length hi' (by rw [← he]; simp) (by rw [e1]; exact ht') (by rw [e2]; exact hn)
            obtain ⟨p1, p2⟩ := ih τ _ hask hordn (by simp only [List.length_cons]; omega)
            have p1 : UptoC (takeW ws k τ ((t, mOf p + x.m.toNat) :: p)) t ((t, mOf p + x.m.toNat) :: p) := p1
            generalize takeW ws k τ ((t, mOf p + x.m.toNat) :: p) = τ' at *
            have rel : ∀ a, RelC ws τ a → cat τ' a = cat τ a → RelC ws τ' a := fun a hr e y hy u hu => by rw [e]; exact g3 _ _ (hr y hy u hu)
            refine ihz (ys ++ [x]) (by simpa using he) τ' g1 (hi.trans g2) (hiC.trans g3) (fun s => ?_) (fun a hne => ?_) ?_
            · rcases g4 s with e | e
              · rw [e]
                rcases hO s with h1 | ⟨y, hy, h1⟩
                · exact .inl h1
                · exact .inr ⟨y, List.mem_append_left _ hy, h1⟩
              · exact .inr ⟨x, by simp, t, hn, by rw [fw_cons] at e; exact e⟩
            · rcases p2 a with e | hr
              · rcases hA a hne with e2 | hr2
                · exact .inl (e.trans e2)
                · exact .inr (rel a hr2 e)
              · exact .inr hr
            · rcases p2 (sOf p) with e | hr
              · rcases hB with ⟨h1, h2⟩ | hr2
                · refine .inl ⟨e.trans h1, fun y hy u hu => ?_⟩
                  rcases List.mem_append.1 hy with hy | hy
                  · exact g3 _ _ (h2 y hy u hu)
                  · simp only [List.mem_singleton] at hy; subst hy; rw [hn] at hu; cases hu; exact p1
                · exact .inr (rel _ hr2 e)
              · exact .inr hr
      refine loop ws [] rfl _ (h.ok.set (h.chn.lt hv hf) h.chn) (Imp.refl _) (ImpC.refl _) (fun s => .inl ?_) (fun a hne => .inl ?_) (.inl ⟨?_, fun x hx => by cases hx⟩)
      · rw [cat_set hsl]; split
        · exact LexLe.refl _
        · exact hord s
      · rw [cat_set hsl, if_neg hne]
      · rw [cat_set hsl, if_pos rfl]
    · rename_i ha
      exact ⟨notAhead σ p hord (by simpa [cat] using ha), fun a => .inl rfl⟩
theorem cat_rep (n s : Nat) : cat (List.replicate n ([] : Chn)) s = [] := by unfold cat; rw [List.getD_eq_getElem?_getD, List.getElem?_replicate]; split <;> rfl

theorem firstW_best {n f : Nat} {ws : List WlkD} (hv : WksOk n ws) (hf : f < n) : ∀ {c : Chn}, IsChn ws f c → UptoC (firstW ws n f) (sOf c) c := by
  have hask : Ask ws n f (List.replicate n []) [(f, 0)] := ask_first
  have hord : OrdS (List.replicate n ([] : Chn)) [(f, 0)] := fun s => by rw [cat_rep]; exact trivial
  obtain ⟨hu, hr⟩ := takeW_postC hv hf n _ _ hask hord (by simp only [List.length_cons, List.length_nil]; omega)
  change UptoC (firstW ws n f) f [(f, 0)] at hu
  change ∀ a, cat (firstW ws n f) a = _ ∨ RelC ws (firstW ws n f) a at hr
  intro c
  induction c with
  | nil => intro h; exact absurd rfl h.ne
  | cons y q ih =>
    intro h
    match q, h, ih with
    | [], ⟨h1, h2⟩, _ =>
      obtain ⟨s, m⟩ := y
      have h1 : s = f := h1
      have h2 : m = 0 := h2
      subst h1; subst h2; exact hu
    | (a, m) :: q, h, ih =>
      obtain ⟨t, k⟩ := y
      obtain ⟨⟨x, hx, ht, hk⟩, hq⟩ := h
      have ih : UptoC (firstW ws n f) a ((a, m) :: q) := ih hq
      rcases hr a with e | hr
      · rw [cat_rep] at e; exact absurd e ih.1
      · obtain ⟨g1, g2⟩ := hr x hx t ht
        refine ⟨g1, g2.trans ?_⟩
        rw [hk]
        exact ih.2.ext t x.m.toNat
theorem firstW_nd {n f : Nat} {ws : List WlkD} (hv : WksOk n ws) (hf : f < n) : NdS (firstW ws n f) :=
  takeW_nd hv hf n _ _ (ask_first (ws := ws) (n := n) (f := f)) (fun s => by rw [cat_rep]; exact List.nodup_nil)

def minsI (ws : List WlkD) (a b : Nat) : Int := ((ws.find? (fun x => decide (x.a = ((min a b : Nat) : Int)) && decide (x.b = ((max a b : Nat) : Int)))).map (fun x => x.m)).getD (-1)
theorem nextOf_iff {n : Nat} {ws : List WlkD} (hv : WksOk n ws) {x : WlkD} (hx : x ∈ ws) (a b : Nat) : nextOf x a = some b ↔ x.a = ((min a b : Nat) : Int) ∧ x.b = ((max a b : Nat) : Int) := by
  have h1 := hv.each x hx
  unfold nextOf
  constructor
  · intro h
    split at h
    · simp only [Option.some.injEq] at h; omega
    · split at h
      · simp only [Option.some.injEq] at h; omega
      · cases h
  · rintro ⟨h2, h3⟩
    split
    · simp only [Option.some.injEq]; omega
    · split
      · simp only [Option.some.injEq]; omega
      · omega
theorem minsI_yes {n : Nat} {ws : List WlkD} (hv : WksOk n ws) {x : WlkD} (hx : x ∈ ws) {a b : Nat} (h : nextOf x a = some b) : minsI ws a b = x.m := by
  unfold minsI
  have h2 := (nextOf_iff hv hx a b).1 h
  cases hf : ws.find? (fun x => decide (x.a = ((min a b : Nat) : Int)) && decide (x.b = ((max a b : Nat) : Int))) with
  | none =>
    have := List.find?_eq_none.1 hf x hx
    simp [h2.1, h2.2] at this
  | some y =>
    have hy := List.mem_of_find?_eq_some hf
    have hp := List.find?_some hf
    simp only [Bool.and_eq_true, decide_eq_true_eq] at hp
    have := next_inj hv hx hy h ((nextOf_iff hv hy a b).2 hp)
    subst this; rfl
theorem minsI_mem {n : Nat} {ws : List WlkD} (hv : WksOk n ws) {a b : Nat} (h : 0 ≤ minsI ws a b) : ∃ x ∈ ws, nextOf x a = some b ∧ minsI ws a b = x.m := by
  cases hf : ws.find? (fun x => decide (x.a = ((min a b : Nat) : Int)) && decide (x.b = ((max a b : Nat) : Int))) with
  | none => unfold minsI at h; rw [hf] at h; simp at h
  | some y =>
    have hy := List.mem_of_find?_eq_some hf
    have hp := List.find?_some hf
    simp only [Bool.and_eq_true, decide_eq_true_eq] at hp
    have := (nextOf_iff hv hy a b).2 hp
    exact ⟨y, hy, this, minsI_yes hv hy this⟩
def firstNe (g : Nat → Chn) : List Nat → Chn
  | [] => []
  | s :: r => if (g s).isEmpty then firstNe g r else g s
theorem firstNe_mem {g : Nat → Chn} : ∀ {r : List Nat}, firstNe g r ≠ [] → ∃ s ∈ r, firstNe g r = g s ∧ g s ≠ []
  | [], h => absurd rfl h
  | s :: r, h => by
    unfold firstNe at h ⊢
    split
    · rename_i e
      rw [if_pos e] at h
      obtain ⟨u, hu, h2⟩ := firstNe_mem h
      exact ⟨u, List.mem_cons_of_mem _ hu, h2⟩
    · rename_i e
      exact ⟨s, List.mem_cons_self .., rfl, by simpa using e⟩
def wayF (ws : List WlkD) (n dst : Nat) : Nat → Chn → Int → Chn
  | 0, q, m => if sOf q = dst ∧ m = 0 then q else []
  | k + 1, q, m => firstNe (fun s => if minsI ws (sOf q) s < 0 ∨ minsI ws (sOf q) s > m ∨ s ∈ stopsOf q then [] else wayF ws n dst k ((s, mOf q + (minsI ws (sOf q) s).toNat) :: q) (m - minsI ws (sOf q) s)) (List.range n)

structure ExtW (ws : List WlkD) (f dst k : Nat) (q : Chn) (m : Int) (c : Chn) : Prop where
  chn : IsChn ws f c
  suf : ∃ l, c = l ++ q ∧ l.length = k
  last : sOf c = dst
  mins : (mOf c : Int) = mOf q + m
  nd : (stopsOf c).Nodup
theorem wayF_sound {n f dst : Nat} {ws : List WlkD} (hv : WksOk n ws) : ∀ (k : Nat) (q : Chn) (m : Int), IsChn ws f q → (stopsOf q).Nodup → wayF ws n dst k q m ≠ [] → ExtW ws f dst k q m (wayF ws n dst k q m)
  | 0, q, m, hq, hd, h => by
    unfold wayF at h ⊢
    split
    · rename_i e
      exact ⟨hq, ⟨[], rfl, rfl⟩, e.1, by omega, hd⟩
    · rename_i e; rw [if_neg e] at h; exact absurd rfl h
  | k + 1, q, m, hq, hd, h => by
    unfold wayF at h ⊢
    obtain ⟨s, hs, he, hne⟩ := firstNe_mem h
    rw [he]
    clear he h
    split at hne
    · exact absurd rfl hne
    · rename_i hc
      rw [if_neg hc]
      obtain ⟨x, hx, ht, hm⟩ := minsI_mem hv (show 0 ≤ minsI ws (sOf q) s by omega)
      have hm1 := (hv.each x hx).2.2.2.1
      have hq' : IsChn ws f ((s, mOf q + (minsI ws (sOf q) s).toNat) :: q) := by rw [hm]; exact hq.ext hx ht
      have hd' : (stopsOf ((s, mOf q + (minsI ws (sOf q) s).toNat) :: q)).Nodup := List.nodup_cons.2 ⟨fun h => hc (.inr (.inr h)), hd⟩
      obtain ⟨c1, ⟨l, c2, c2'⟩, c3, c4, c5⟩ := wayF_sound hv k _ _ hq' hd' hne
      refine ⟨c1, ⟨l ++ [(s, mOf q + (minsI ws (sOf q) s).toNat)], by rw [c2]; simp, by simp [c2']⟩, c3, ?_, c5⟩
      rw [c4]
      simp only [mOf, List.headD_cons]
      omega
theorem firstNe_ge {g : Nat → Chn} {c : Chn} {s : Nat} (hs : g s ≠ [] ∧ LexLe (fw (g s)) (fw c)) : ∀ {r : List Nat}, s ∈ r → (∀ u ∈ r, u < s → g u ≠ [] → LexLe (fw (g u)) (fw c)) → r.Pairwise (· < ·) → firstNe g r ≠ [] ∧ LexLe (fw (firstNe g r)) (fw c)
  | [], h, _, _ => by cases h
  | v :: r, h, hu, hp => by
    unfold firstNe
    split
    · rename_i e
      have hvs : v ≠ s := fun e2 => by subst e2; exact hs.1 (by simpa using e)
      have hr : s ∈ r := (List.mem_cons.1 h).resolve_left (fun h => hvs h.symm)
      exact firstNe_ge hs hr (fun u hu' hlt hgu => hu u (List.mem_cons_of_mem _ hu') hlt hgu) (List.pairwise_cons.1 hp).2
    · rename_i e
      refine ⟨by simpa using e, ?_⟩
      by_cases hvs : v = s
      · subst hvs; exact hs.2
      · have hr : s ∈ r := (List.mem_cons.1 h).resolve_left (fun h => hvs h.symm)
        exact hu v (List.mem_cons_self ..) ((List.pairwise_cons.1 hp).1 s hr) (by simpa using e)
theorem fw_suf (l q : Chn) : fw (l ++ q) = fw q ++ fw l := by simp [fw, stopsOf]
theorem wayF_least {n f dst : Nat} {ws : List WlkD} (hv : WksOk n ws) (hf : f < n) : ∀ (k : Nat) (q : Chn) (m : Int), IsChn ws f q → (stopsOf q).Nodup → ∀ c, ExtW ws f dst k q m c →
    wayF ws n dst k q m ≠ [] ∧ LexLe (fw (wayF ws n dst k q m)) (fw c)
  | 0, q, m, hq, hd, c, hc => by
    obtain ⟨c1, ⟨l, c2, c2'⟩, c3, c4, c5⟩ := hc
    have : l = [] := List.eq_nil_of_length_eq_zero c2'
    subst this
    simp only [List.nil_append] at c2
    subst c2
    unfold wayF
    rw [if_pos ⟨c3, by omega⟩]
    exact ⟨hq.ne, LexLe.refl _⟩
  | k + 1, q, m, hq, hd, c, hc => by
    obtain ⟨c1, ⟨l, c2, c2'⟩, c3, c4, c5⟩ := hc
    obtain ⟨l', y, rfl⟩ : ∃ l' y, l = l' ++ [y] := by
      cases h : l.reverse with
      | nil => simp at h; subst h; simp at c2'
      | cons y r => exact ⟨r.reverse, y, by rw [← List.reverse_reverse l, h]; simp⟩
    obtain ⟨s, mm⟩ := y
    simp only [List.append_assoc, List.cons_append, List.nil_append] at c2
    simp only [List.length_append, List.length_cons, List.length_nil] at c2'

    have sufx : ∀ (r u : Chn), IsChn ws f (r ++ u) → u ≠ [] → IsChn ws f u ∧ (mOf u ≤ mOf (r ++ u)) := by
      intro r
      induction r with
      | nil => intro u h _; exact ⟨h, Nat.le_refl _⟩
      | cons z r ih =>
        intro u h hu
        cases hru : r ++ u with
        | nil => simp at hru; exact absurd hru.2 hu
        | cons z2 r2 =>
          rw [List.cons_append, hru] at h
          obtain ⟨⟨x, hx, ht, hk⟩, h2⟩ := h
          rw [← hru] at h2
          obtain ⟨g1, g2⟩ := ih u h2 hu
          refine ⟨g1, ?_⟩
          rw [List.cons_append]
          rw [hru] at g2
          simp only [mOf, List.headD_cons] at g2 ⊢
          have := (hv.each x hx).2.2.2
          omega
    rw [c2] at c1
    obtain ⟨hsq, hle⟩ := sufx l' ((s, mm) :: q) c1 (by simp)
    have hstep : ∃ x ∈ ws, nextOf x (sOf q) = some s ∧ mm = mOf q + x.m.toNat := by
      match q, hq, hsq with
      | (a, b) :: r, _, hsq => exact hsq.1
    obtain ⟨x, hx, ht, hmm⟩ := hstep
    have hmi := minsI_yes hv hx ht
    have hm1 := (hv.each x hx).2.2.2
    have hnd : s ∉ stopsOf q := by
      rw [c2] at c5
      have : (stopsOf ((s, mm) :: q)).Nodup := by
        have h5 := c5
        simp only [stopsOf, List.map_append] at h5
        exact (List.nodup_append.1 h5).2.1
      exact (List.nodup_cons.1 this).1
    have hlem : minsI ws (sOf q) s ≤ m := by
      rw [c2] at c4
      simp only [mOf, List.headD_cons] at hle c4
      rw [hmi]
      simp only [mOf] at hmm
      omega
    have hcond : ¬ (minsI ws (sOf q) s < 0 ∨ minsI ws (sOf q) s > m ∨ s ∈ stopsOf q) := by
      rintro (h | h | h)
      · omega
      · omega
      · exact hnd h
    have hsn : s < n := (nextOf_lt hv hx ht).2.1
    have hmm' : mOf q + (minsI ws (sOf q) s).toNat = mm := by rw [hmi]; exact hmm.symm
    have hrec := wayF_least hv hf k ((s, mOf q + (minsI ws (sOf q) s).toNat) :: q) (m - minsI ws (sOf q) s) (by rw [hmm']; exact hsq) (List.nodup_cons.2 ⟨hnd, hd⟩) c
      ⟨by rw [c2]; exact c1, ⟨l', by rw [hmm']; exact c2, by omega⟩, c3, by
        rw [c4, hmm', hmi]
        simp only [mOf, List.headD_cons]
        simp only [mOf] at hmm
        omega, c5⟩
    unfold wayF
    refine firstNe_ge (s := s) (by simp only [if_neg hcond]; exact hrec) (List.mem_range.2 hsn) (fun u hu hus hgu => ?_) List.pairwise_lt_range
    split
    · rename_i hc; simp only [if_pos hc] at hgu; exact absurd rfl hgu
    · rename_i hc
      simp only [if_neg hc] at hgu
      obtain ⟨x2, hx2, ht2, hm2⟩ := minsI_mem hv (show 0 ≤ minsI ws (sOf q) u by omega)
      obtain ⟨d1, ⟨l2, d2, d2'⟩, d3, d4, d5⟩ := wayF_sound hv k ((u, mOf q + (minsI ws (sOf q) u).toNat) :: q) _ (by rw [hm2]; exact hq.ext hx2 ht2) (List.nodup_cons.2 ⟨fun h => hc (.inr (.inr h)), hd⟩) hgu
      rw [d2, c2, fw_suf, fw_suf, fw_cons, fw_cons]
      rw [List.append_assoc, List.append_assoc]
      have lexc : ∀ (z o p : List Nat), u < s → LexLe (z ++ ([u] ++ o)) (z ++ ([s] ++ p)) := by
        intro z
        induction z with
        | nil => intro o p h; exact .inl h
        | cons a z ih => intro o p h; exact .inr ⟨rfl, ih o p h⟩
      exact lexc _ _ _ hus

theorem way_best {n f dst : Nat} {ws : List WlkD} (hv : WksOk n ws) (hf : f < n) {c : Chn} (he : cat (firstW ws n f) dst = c) (hne : c ≠ []) :
    (∀ k, k + 1 < c.length → wayF ws n dst k [(f, 0)] (mOf c) = []) ∧ (∀ k, k + 1 = c.length → wayF ws n dst k [(f, 0)] (mOf c) ≠ [] ∧ fw (wayF ws n dst k [(f, 0)] (mOf c)) = fw c) := by
  have hone : IsChn ws f [(f, 0)] := ⟨rfl, rfl⟩
  have hnd1 : (stopsOf [(f, 0)]).Nodup := by simp [stopsOf]
  obtain ⟨hc, hs⟩ : IsChn ws f c ∧ sOf c = dst := by
    rcases (firstW_ok hv hf).each dst with e | ⟨h1, h2⟩
    · rw [he] at e; exact absurd e hne
    · rw [he] at h1 h2; exact ⟨h1, h2⟩
  have best : ∀ c', IsChn ws f c' → sOf c' = dst → LeC c c' := fun c' h1 h2 => by
    have := (firstW_best hv hf h1).2
    rw [h2, he] at this; exact this
  have ext : ∀ k, wayF ws n dst k [(f, 0)] (mOf c) ≠ [] → LeC c (wayF ws n dst k [(f, 0)] (mOf c)) ∧ mOf (wayF ws n dst k [(f, 0)] (mOf c)) = mOf c ∧ (wayF ws n dst k [(f, 0)] (mOf c)).length = k + 1 := fun k h => by
    obtain ⟨c1, ⟨l, c2, c2'⟩, c3, c4, c5⟩ := wayF_sound hv k _ _ hone hnd1 h
    refine ⟨best _ c1 c3, ?_, ?_⟩
    · simp only [mOf, List.headD_cons] at c4 ⊢; omega
    · rw [c2]; simp [c2']
  constructor
  · intro k hk
    apply Classical.byContradiction
    intro h
    obtain ⟨h1, h2, h3⟩ := ext k h
    rcases h1 with h1 | ⟨h1, h4⟩
    · omega
    · rcases h4 with h4 | ⟨h4, _⟩ <;> omega
  · intro k hk
    have hnd := firstW_nd hv hf dst
    rw [he] at hnd
    have tl : ∀ (c : Chn), IsChn ws f c → ∃ l, c = l ++ [(f, 0)] := by
      intro c
      induction c with
      | nil => intro h; exact absurd rfl h.ne
      | cons y q ih =>
        intro h
        match q, h, ih with
        | [], ⟨h1, h2⟩, _ =>
          obtain ⟨s, m⟩ := y
          have h1 : s = f := h1
          have h2 : m = 0 := h2
          subst h1; subst h2; exact ⟨[], rfl⟩
        | z :: q, h, ih =>
          obtain ⟨t, k⟩ := y
          obtain ⟨a, m⟩ := z
          obtain ⟨l, hl⟩ := ih h.2
          exact ⟨(t, k) :: l, by rw [hl]; rfl⟩
    obtain ⟨l, hl⟩ := tl c hc
    have hext : ExtW ws f dst k [(f, 0)] (mOf c) c := ⟨hc, ⟨l, hl, by rw [hl] at hk; simp at hk; omega⟩, hs, by simp [mOf], hnd⟩
    obtain ⟨g1, g2⟩ := wayF_least hv hf k _ _ hone hnd1 c hext
    refine ⟨g1, ?_⟩
    obtain ⟨h1, h2, h3⟩ := ext k g1
    refine LexLe.antisymm g2 ?_
    rcases h1 with h1 | ⟨h1, h4⟩
    · omega
    · rcases h4 with h4 | ⟨_, h4⟩
      · omega
      · exact h4
end Go.Proofs.Ytemejcbilhcebaa

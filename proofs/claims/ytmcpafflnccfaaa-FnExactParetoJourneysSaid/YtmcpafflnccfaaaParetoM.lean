/-
  PLAIN WORDS on the Pareto journeys in memory: journeys that end at one stop and touch it nowhere before lie in different blocks if their lengths differ; a row of journeys that grows.
-/
import Derived.Test.YtmcpafflnccfaaaMc
import Derived.Test.YtmcpafflnccfaaaMe
import Derived.Test.YtmcpafflnccfaaaJourneyTimes
namespace Go.Proofs.Ytmcpafflnccfaaa
open Go.RowKit Jrn
set_option linter.unusedVariables false

/-- legs that end at a stop and end there nowhere before -/
def Thru (too : Int) : List LegD → Prop
  | [] => False
  | [x] => x.dst = too
  | x :: y :: r => x.dst ≠ too ∧ Thru too (y :: r)
theorem best_thru {L : List LegD} {ch too : Int} : ∀ (n : Nat) (s t : Int) (c : List LegD), Jrn.bestF L ch too n s t = some c → Thru too c
  | 0, s, t, c, h => by simp [Jrn.bestF] at h
  | n + 1, s, t, c, h => by
    rw [Jrn.bestF] at h
    rcases pickAll_from h with h | ⟨x, hx, h⟩
    · cases h
    · unfold candJ at h
      split at h
      · cases h
      · dsimp only at h
        split at h
        · rename_i hd; cases h; exact hd
        · rename_i hd
          cases hg : Jrn.bestF L ch too n x.dst (x.arr + ch) with
          | none => rw [hg] at h; cases h
          | some d =>
            rw [hg] at h
            cases h
            have ih := best_thru n _ _ d hg
            cases d with
            | nil => exact ih.elim
            | cons y r => exact ⟨hd, ih⟩
theorem thru_apart {too : Int} : ∀ (xs ys : List LegD), Thru too xs → Thru too ys → xs.length < ys.length → ∃ j, ∃ h1 : j < xs.length, ∃ h2 : j < ys.length, xs[j].dst ≠ ys[j].dst
  | [], ys, hx, _, _ => hx.elim
  | [x], [], _, hy, _ => hy.elim
  | [x], [y], _, _, hl => by simp at hl
  | [x], y :: z :: r, hx, hy, hl => ⟨0, by simp, by simp, fun e => hy.1 (by rw [← show x.dst = y.dst from e]; exact hx)⟩
  | x :: y :: r, [], _, hy, _ => hy.elim
  | x :: y :: r, [z], _, _, hl => by simp at hl
  | x :: y :: r, z :: u :: q, hx, hy, hl => by
    obtain ⟨j, h1, h2, h3⟩ := thru_apart (y :: r) (u :: q) hx.2 hy.2 (by simpa using hl)
    exact ⟨j + 1, by simpa using h1, by simpa using h2, by simpa using h3⟩
theorem own_heap {w : World} {B : Nat} {e : TypeId} {s n : Nat} {v : Value} {vs : List Value} {g : Nat} (h : w.ownsRow B e s v n vs) (hg : v.ownBlock = some g) : ∃ cap cur, v = .slice (some ⟨g, 0, none⟩) n cap ∧ w.heap[g]? = some (.cells cur e (0, 0)) := by
  rcases h.2 with ⟨hv, _⟩ | ⟨g', cap, cur, hv, hB, hb, _⟩
  · rw [hv] at hg; cases hg
  · rw [hv] at hg
    have e2 : g' = g := by simpa [Value.ownBlock] using hg
    subst e2
    exact ⟨cap, cur, hv, hb⟩
theorem types_apart {w : World} {l l' : Nat} {e e' : TypeId} {s s' n n' : Nat} {v v' : Value} {vs vs' : List Value} (he : e ≠ e') (h : w.ownsRow l e s v n vs) (h' : w.ownsRow l' e' s' v' n' vs') (g : Nat) (hg : v.ownBlock = some g) : v'.ownBlock ≠ some g := fun hg' => by
  obtain ⟨_, _, _, h1⟩ := own_heap h hg
  obtain ⟨_, _, _, h2⟩ := own_heap h' hg'
  rw [h1] at h2
  simp at h2
  exact he h2.2
theorem legs_apart {w : World} {l l' : Nat} {e : TypeId} {x y : Value} {xs ys : List LegD} (hx : w.ownsRow l e 5 x xs.length (legC xs)) (hy : w.ownsRow l' e 5 y ys.length (legC ys)) (hne : ∃ j, ∃ h1 : j < xs.length, ∃ h2 : j < ys.length, xs[j].dst ≠ ys[j].dst) (g : Nat) (hg : x.ownBlock = some g) : y.ownBlock ≠ some g := fun hg' => by
  obtain ⟨j, h1, h2, h3⟩ := hne
  obtain ⟨c1, _, rfl, -⟩ := own_heap hx hg
  obtain ⟨c2, _, rfl, -⟩ := own_heap hy hg'
  have e1 := hx.cellAt (j * 5 + 2) (by omega)
  have e2 := hy.cellAt (j * 5 + 2) (by omega)
  rw [e1, legC_get2 xs j h1, legC_get2 ys j h2] at e2
  simp at e2
  exact h3 e2
/-- one journey more -/
theorem LGrpsOwn.snoc2 {l u : Nat} {w2 wl w3 : World} {v x v' : Value} {vs : List Value} {xss : List (List LegD)} {ys : List LegD} (h : LGrpsOwn l u w2 v vs xss) (hx : w2.ownsRow l 62 5 x ys.length (legC ys))
    (hlv : ∀ g, x.ownBlock = some g → v.ownBlock ≠ some g) (hap : ∀ i (h' : i < vs.length) g, vs[i].ownBlock = some g → x.ownBlock ≠ some g)
    (hwl : Below w2.heap.size w2 wl) (hg : wl.grownBy w3 v.ownBlock) (hrow : w3.ownsRow l 30 1 v' (xss.length + 1) (vs ++ [x])) (hat : v'.ownBlock = v.ownBlock ∨ v'.ownBlock = some wl.heap.size) : LGrpsOwn l w3.heap.size w3 v' (vs ++ [x]) (xss ++ [ys]) := by
  have hsz : w2.heap.size ≤ w3.heap.size := Nat.le_trans hwl.size hg.size
  have hkeep : ∀ g, g < w2.heap.size → v.ownBlock ≠ some g → w3.heap[g]? = w2.heap[g]? := fun g h1 h2 => (hg.block g (Nat.lt_of_lt_of_le h1 hwl.size) (fun e => h2 e.symm)).trans (hwl.block g h1)
  have hvs : ∀ i (h' : i < vs.length) g, vs[i].ownBlock = some g → g < w2.heap.size := fun i h' g hg' => ((h.each i (by have := h.len; omega) h').1.lt g hg').2
  have hxg : ∀ g, x.ownBlock = some g → g < w2.heap.size := fun g hg' => (hx.lt g hg').2
  have hcase : ∀ (q : Nat) (hq : q < (vs ++ [x]).length), (∃ hq' : q < vs.length, (vs ++ [x])[q] = vs[q]) ∨ (q = vs.length ∧ (vs ++ [x])[q] = x) := fun q hq => by
    by_cases e : q < vs.length
    · exact .inl ⟨e, List.getElem_append_left e⟩
    · have e2 : q = vs.length := by simp at hq; omega
      exact .inr ⟨e2, by subst e2; simp⟩
  refine ⟨by simpa using hrow, fun g hg' => (hrow.lt g hg').2, by simp [h.len], fun i h1 h2 => ?_, fun i h2 g hg' => ?_, fun i j h1 h2 hne g hg' => ?_⟩
  · by_cases e : i < vs.length
    · have hi : i < xss.length := by have := h.len; omega
      have h3 := h.each i hi e
      rw [List.getElem_append_left e, List.getElem_append_left hi]
      exact ⟨own_block h3.1 (fun g hg' => hkeep g (h3.1.lt g hg').2 (fun e2 => h.out i e g hg' e2)), fun g hg' => by have := (h3.1.lt g hg').2; omega⟩
    · have e2 : i = vs.length := by simp at h2; omega
      have e3 : i = xss.length := by have := h.len; omega
      have e4 : (vs ++ [x])[i]'h2 = x := by subst e2; simp
      have e5 : (xss ++ [ys])[i]'h1 = ys := by subst e3; simp
      rw [e4, e5]
      exact ⟨own_block hx (fun g hg' => hkeep g (hxg g hg') (hlv g hg')), fun g hg' => by have := hxg g hg'; omega⟩
  · have hlt : g < wl.heap.size ∧ v.ownBlock ≠ some g := by
      rcases hcase i h2 with ⟨a1, a2⟩ | ⟨a1, a2⟩ <;> rw [a2] at hg'
      · exact ⟨Nat.lt_of_lt_of_le (hvs i a1 g hg') hwl.size, h.out i a1 g hg'⟩
      · exact ⟨Nat.lt_of_lt_of_le (hxg g hg') hwl.size, hlv g hg'⟩
    rcases hat with h3 | h3
    · rw [h3]; exact hlt.2
    · rw [h3]; intro e; simp at e; omega
  · rcases hcase i h1 with ⟨a1, a2⟩ | ⟨a1, a2⟩ <;> rcases hcase j h2 with ⟨b1, b2⟩ | ⟨b1, b2⟩
    · rw [a2] at hg'; rw [b2]; exact h.apart i j a1 b1 hne g hg'
    · rw [a2] at hg'; rw [b2]; exact hap i a1 g hg'
    · rw [a2] at hg'; rw [b2]; intro e; exact hap j b1 g e hg'
    · omega
theorem LGrpsOwn.none {l : Nat} {w : World} {v : Value} (h : w.ownsRow l 30 1 v 0 []) : LGrpsOwn l w.heap.size w v [] [] :=
  ⟨h, fun g hg => (h.lt g hg).2, rfl, fun i h' => by simp at h', fun i h' => by simp at h', fun i j h1 => by simp at h1⟩
/-- whatever leaves the row and the journeys alone -/
theorem LGrpsOwn.keep {l u : Nat} {w w' : World} {v : Value} {vs : List Value} {xss : List (List LegD)} (h : LGrpsOwn l u w v vs xss) (hk : ∀ g, l ≤ g → g < w.heap.size → w'.heap[g]? = w.heap[g]?) : LGrpsOwn l u w' v vs xss :=
  ⟨own_block h.row (fun g hg => hk g (h.row.lt g hg).1 (h.row.lt g hg).2), h.hi, h.len, fun i a b => ⟨own_block (h.each i a b).1 (fun g hg => hk g ((h.each i a b).1.lt g hg).1 ((h.each i a b).1.lt g hg).2), (h.each i a b).2⟩, h.out, h.apart⟩
theorem endT_last : ∀ (c : List LegD) (t : Int), c ≠ [] → endT t c = (lastL c).arr
  | [], t, h => absurd rfl h
  | [x], t, _ => rfl
  | x :: y :: r, t, _ => by
    show endT y.arr r = _
    have := endT_last (y :: r) t (by simp)
    rw [show endT y.arr r = endT t (y :: r) from rfl, this]
    unfold lastL
    simp
/-- what is known of the first journeys by their numbers of legs -/
structure ParFacts (too : Int) (f : Nat → Option (List LegD)) : Prop where
  zero : f 0 = none
  pos : ∀ n b, f n = some b → 0 ≤ endT 0 b
  more : ∀ n c, f n = some c → ∃ b, f (n + 1) = some b ∧ endT 0 b ≤ endT 0 c
  thru : ∀ n c, f n = some c → Thru too c ∧ c ≠ [] ∧ c.length ≤ n
  full : ∀ n b, f (n + 1) = some b → (∀ c, f n = some c → endT 0 b < endT 0 c) → b.length = n + 1
theorem parFacts {rs : List RideD} {ch frm at_ too : Int} (hrs : RidesOk rs) (hch : 0 ≤ ch) (hat : 0 ≤ at_) : ParFacts too (fun n => Jrn.bestF (allLegs rs) ch too n frm at_) where
  zero := rfl
  pos n b hb := by
    obtain ⟨b1, b2, b3, b4⟩ := best_sound ch too n frm at_ b hb
    have := chain_end _ ch hch (fun l hl => hrs.leg_lt hl) b _ _ b2
    rw [endT_ne b1 at_ 0] at this; omega
  more n c hc := best_more hrs hch n hc
  thru n c hc := ⟨best_thru n _ _ c hc, (best_sound ch too n frm at_ c hc).1, (best_sound ch too n frm at_ c hc).2.2.1⟩
  full n b hb hl := best_full hrs hch n hb hl
theorem ParFacts.len {too : Int} {f : Nat → Option (List LegD)} (h : ParFacts too f) {n : Nat} {b : List LegD} (hb : f (n + 1) = some b) (hy : (parF f n).2 < 0 ∨ endT 0 b < (parF f n).2) : b.length = n + 1 := by
  refine h.full n b hb fun c hc => ?_
  rcases parF_best f h.pos h.more h.zero n with ⟨h1, h2⟩ | ⟨c', h1, h2⟩
  · rw [h1] at hc; cases hc
  · rw [h1] at hc
    have e : c' = c := Option.some.inj hc
    subst e
    have := h.pos n c' h1
    omega
theorem ParFacts.mem {too : Int} {f : Nat → Option (List LegD)} (h : ParFacts too f) : ∀ n c, c ∈ (parF f n).1 → Thru too c ∧ c ≠ [] ∧ c.length ≤ n
  | 0, c, hc => by simp [parF] at hc
  | n + 1, c, hc => by
    cases hf : f (n + 1) with
    | none => rw [parF_none hf] at hc; have := h.mem n c hc; exact ⟨this.1, this.2.1, by omega⟩
    | some b =>
      by_cases hy : (parF f n).2 < 0 ∨ endT 0 b < (parF f n).2
      · rw [parF_yes hf hy] at hc
        rcases List.mem_append.1 hc with hc | hc
        · have := h.mem n c hc; exact ⟨this.1, this.2.1, by omega⟩
        · simp at hc; subst hc; exact h.thru _ _ hf
      · rw [parF_no hf hy] at hc; have := h.mem n c hc; exact ⟨this.1, this.2.1, by omega⟩
/-- a new journey lies apart from those before -/
theorem ParFacts.apart {too : Int} {f : Nat → Option (List LegD)} (h : ParFacts too f) {n : Nat} {b : List LegD} (hb : f (n + 1) = some b) (hy : (parF f n).2 < 0 ∨ endT 0 b < (parF f n).2) {l u l' : Nat} {w : World} {v x : Value} {vs : List Value}
    (hg : LGrpsOwn l u w v vs (parF f n).1) (hx : w.ownsRow l' 62 5 x b.length (legC b)) : ∀ i (h' : i < vs.length) g, vs[i].ownBlock = some g → x.ownBlock ≠ some g := fun i h' g hgi => by
  have hi : i < (parF f n).1.length := by have := hg.len; omega
  have hm := h.mem n _ (List.getElem_mem hi)
  have hl := h.len hb hy
  exact legs_apart (hg.each i hi h').1 hx (thru_apart _ _ hm.1 (h.thru _ _ hb).1 (by omega)) g hgi
theorem parF_small {too : Int} {f : Nat → Option (List LegD)} (h : ParFacts too f) (n : Nat) (hn : n ≤ 4) : LGrpsSmall (parF f n).1 := by
  have hl := parF_len f n
  refine ⟨by omega, ?_⟩
  have key : ∀ i, i ≤ (parF f n).1.length → preG (parF f n).1 i ≤ 20 * i := by
    intro i
    induction i with
    | zero => intro _; exact Nat.le_refl _
    | succ i ih =>
      intro hi
      rw [preG_succ (by omega)]
      have := ih (by omega)
      have := (h.mem n _ (List.getElem_mem (show i < (parF f n).1.length by omega))).2.2
      omega
  have := key _ (Nat.le_refl _)
  unfold totG; omega
theorem infoLegS : (Try.prog.info? 30).map (fun i => (i.zero, i.size, i.bytes)) = some (some (.slice none 0 0), 1, 24) := by kernel_rfl
end Go.Proofs.Ytmcpafflnccfaaa

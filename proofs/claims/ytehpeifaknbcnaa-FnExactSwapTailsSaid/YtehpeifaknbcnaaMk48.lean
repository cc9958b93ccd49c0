/-
  JOINED TEXTS, each under its own namespace line: StepRun, L2Own.
-/
import Derived.WalkKit
import Derived.Deep.AppendLies
import Derived.Deep.Upon
import Derived.OrdersHeld
import Derived.Test.YtehpeifaknbcnaaNetX
import Derived.Test.YtehpeifaknbcnaaMk29
import Derived.Deep.RegionHeld
namespace Go.Proofs.Ytehpeifaknbcnaa
open Go.RowKit
set_option linter.unusedVariables false

theorem step_append_run {P : Program} {ops : Array Oper} {o : Oper} {a : Act} {K : Act → World → Prop} {Q : Exit → Act → World → Prop} {E : Prop} {w w' : World} {v y v' : Value} (hgd : o.guard = none) (s x : Operand) (t : TypeId)
    (ho : o.op = .call { callee := .builtin .append, args := #[s, x], argTypes := #[t, t] }) (hs : a.eval s = v) (hx : a.eval x = y) (hr : (Builtin.append_ #[t, t] o.type #[v, y]).run P w = .ok v' w') (h : K (a.put o.dst v') w') :
    if Region.wanted o (yielded ops a.tmps) = true then Oper.wp P o a w K Q else E := by
  have hw : Region.wanted o (yielded ops a.tmps) = true := by simp [Region.wanted, hgd]
  rw [if_pos hw]
  unfold Oper.wp execOp
  simp only [ho, resolve, invoke, builtin, Sem.run_bind, Sem.run_pure, Result.andThen_ok, List.map_toArray, List.map_cons, List.map_nil, hs, hx, hr]
  exact h
end Go.Proofs.Ytehpeifaknbcnaa

namespace Go.Proofs.Ytehpeifaknbcnaa
open Go.RowKit
set_option linter.unusedVariables false
set_option linter.unusedSimpArgs false

set_option maxRecDepth 100000 in
theorem l1Own_any (v : Value) (xs : List Int) (w : World) (hr : RowAt w v (ints xs)) (h1 : 1 ≤ xs.length) (h2 : xs.length ≤ 1048576) :
    Calls Try.prog 86 #[v] w fun e w' => ∃ g c, e = .returned (.slice (some ⟨g, 0, none⟩) xs.length c) ∧ w'.ownsRow w.heap.size 3 1 (.slice (some ⟨g, 0, none⟩) xs.length c) xs.length (ints xs) ∧ Below w.heap.size w w' := by
  obtain ⟨a, c, rfl, hc, hm, HC⟩ := ints_open hr
  obtain ⟨b, off, rfl, hb, -⟩ := HC.out 0 (by omega)
  have HR := Lib.hid hr
  clear hr
  obtain ⟨i0, hi0, hz0, hz1, hz2⟩ := info_parts infoInt
  have hlit := World.ownsRow_lit (base := w.heap.size) (e := 3) (size := 1) w #[] 0 (Nat.le_refl _) (by decide) (by simp)
  have HLit := Lib.hid hlit
  clear hlit
  go_enter Try.func86, Try.ntmps86
  go_wp2_with (at_builtin; refine wpList_append_lies _ rfl _ _ 80 rfl w.heap.size 3 i0 (.int .i64 0) 1 8 Try.underlying80 hi0 hz0 hz1 hz2 rfl (by decide) _ _ _ rfl HLit.out ⟨b, off, none⟩ xs.length c (ints xs) rfl ?c1 ?c2 ?c3 ?c4 ?c5 ?c6 ?c7 _ rfl ?_)
  case c1 => rw [ints_len]; try omega
  case c2 =>
    intro j u hu
    obtain ⟨_, _, he, _, _, hcell⟩ := HR.out
    simp [ints_len] at he
    obtain ⟨rfl, rfl⟩ := he
    obtain ⟨b', o', he, hlt, hc'⟩ := hcell j u hu
    simp at he
    obtain ⟨rfl, rfl⟩ := he
    try rw [addr_add]
    first | exact hc' | exact acell hc' _
  case c3 => intro u hu; obtain ⟨z, _, rfl⟩ := List.mem_map.1 hu; rfl
  case c4 => omega
  case c5 => unfold maxLen; omega
  case c6 => omega
  intro g c2 w2 hown hg hat hlt
  have HO : Hid (w2.ownsRow w.heap.size 3 1 (.slice (some ⟨g, 0, none⟩) xs.length c2) xs.length (ints xs)) := by
    show World.ownsRow _ _ _ _ _ _ _
    simpa using hown
  have HB : Hid (Below w.heap.size w w2) := ((Below.refl _ _).alloc (Nat.le_refl _) _).grown hg (by simp) (fun g' hg' => by simp [Value.ownBlock] at hg'; omega)
  try rw [Nat.zero_add] at *
  clear hown hg hat hlt
  go_wp2_with fail
  go_ret
  exact ⟨g, c2, rfl, HO.out, HB.out⟩

end Go.Proofs.Ytehpeifaknbcnaa

/-
  PLAIN WORDS of chapter 6, of no program: the text of a timetable.
-/
import Derived.Test.YtffcgblionlhhaaDoorTripTxP
import Derived.Test.YtffcgblionlhhaaDoorMa
namespace Go.Proofs.YtffcgblionlhhaaDoor
open Go.Lib
set_option linter.unusedVariables false

/-- the name of a trip's line -/
def lnNm (n : NetD) (x : TripD) : ByteArray := ((n.lines[x.line.toNat]?).map (fun l => l.name)).getD ByteArray.empty
theorem lnNm_at {n : NetD} {x : TripD} {k : Nat} (hk : x.line = k) (hkl : k < n.lines.length) : lnNm n x = n.lines[k].name := by
  unfold lnNm; rw [hk, Int.toNat_natCast, List.getElem?_eq_getElem hkl]; rfl
def tripLn (n : NetD) (x : TripD) : List UInt8 := [116, 114, 105, 112, 32] ++ itoa x.id ++ [32] ++ (lnNm n x).data.toList ++ [32] ++ (timeC x.start.toNat).data.toList ++ [10]
def tripsTx (n : NetD) (xs : List TripD) : List UInt8 := xs.flatMap (tripLn n)
theorem tripsTx_take (n : NetD) (xs : List TripD) (k : Nat) (h : k < xs.length) : tripsTx n (xs.take (k + 1)) = tripsTx n (xs.take k) ++ tripLn n xs[k] := by
  unfold tripsTx
  rw [List.take_succ_eq_append_getElem h, List.flatMap_append, List.flatMap_singleton]
def ttTx (t : TTD) : List UInt8 := netTx t.net ++ tripsTx t.net t.trips
def tripWd (n : NetD) (x : TripD) : List ByteArray := [⟨#[116, 114, 105, 112]⟩, ⟨(itoa x.id).toArray⟩, lnNm n x, timeC x.start.toNat]
theorem tripWd_join (n : NetD) (x : TripD) : jnL 32 (tripWd n x) ++ [10] = tripLn n x := by
  unfold tripWd
  rw [jnL_cons, jnL_cons, jnL_cons, jnL_one]
  simp [tripLn]
theorem lnNm_len {n : NetD} (h : NetGood n) (x : TripD) : (lnNm n x).size ≤ 8 := by
  unfold lnNm
  cases hx : n.lines[x.line.toNat]? with
  | none => decide
  | some l => exact ((good_sizes h).2 l (List.mem_of_getElem? hx)).1
theorem tripLn_len {n : NetD} (h : NetGood n) (x : TripD) (h1 : 0 ≤ x.id) (h2 : x.id ≤ 999) : (tripLn n x).length ≤ 50 := by
  have a := lnNm_len h x
  have b := itoa_le x.id h1 (by omega)
  rw [← length_list] at a
  have c : (timeC x.start.toNat).data.toList.length = 5 := rfl
  simp only [tripLn, List.length_append, List.length_cons, List.length_nil]
  omega
theorem tripsTx_len {t : TTD} (h : TTGood t) (k : Nat) : (tripsTx t.net (t.trips.take k)).length ≤ 600 := by
  have h1 := flat_len (tripLn t.net) 50 (t.trips.take k) (fun x hx => by
    obtain ⟨j, hj, rfl⟩ := List.getElem_of_mem (List.mem_of_mem_take hx)
    have := h.2.2 j hj hj
    exact tripLn_len h.1 _ (by have := this.1; omega) this.2.1)
  have h2 := List.length_take_le' k t.trips
  have h3 := h.2.1
  unfold tripsTx; omega
end Go.Proofs.YtffcgblionlhhaaDoor

/-
  DERIVED. GIVEN WITH THE SEED: THE CARDS: each row of YtffcgblionlhhaaDoorRows.lean that lists a variable, with what it lists TIED to the program's text (the seventh form; the later family's looks); each row that meets fmt, with fmt's text TOLD by the authors' own Lean function (tested against real Go, not proved from fmt's source: count such statements apart). THE CARD IS WHAT COUNTS. Prove the row's statement (the work); the ties are given (YtffcgblionlhhaaDoorTie.lean); close each card by the builder's one call (the guide's Derived/Test/ToyasCard.lean, 'card_holds'). Laid BY PROGRAM, IN A SANDBOX (cutbox-door.mjs). By AI agents, Wed Nov 11 2026. No macro, syntax, notation, axiom, sorry.
-/
import Derived.Test.YtffcgblionlhhaaDoorRows
import GoSem.ClaimSeven
namespace Go.Proofs.YtffcgblionlhhaaDoor
namespace Rows

/-- THE TIED CARD OF 'laws.FnExactFormatCalendar'. -/
def fnExactFormatCalendarCard : Claim7 := { stood := { row := fnExactFormatCalendarRow, standIns := [], harness := (true, "c36c6e46a01c655131bbdb06bfebb3c21006b56889e4f4a2f1515b255159ad21"), looks := true }, kinds := [], alts := [], laidByText := true, laidKinds := [.data, .data, .data], laidTests := true, laidLooks := .later }
def FnExactFormatCalendarCardSaid : Prop := Claim7.holds Tryd.pinned (.plain (OpenSpec.ofChange fnExactFormatCalendarSpec)) fnExactFormatCalendarCard

/-- THE TIED CARD OF 'laws.FnExactParseCalendar'. -/
def fnExactParseCalendarCard : Claim7 := { stood := { row := fnExactParseCalendarRow, standIns := [], harness := (true, "c36c6e46a01c655131bbdb06bfebb3c21006b56889e4f4a2f1515b255159ad21"), looks := true }, kinds := [], alts := [], laidByText := true, laidKinds := [.data, .data, .data, .sentinel, .sentinel], laidTests := true, laidLooks := .later }
def FnExactParseCalendarCardSaid : Prop := Claim7.holds Tryd.pinned (.plain (OpenSpec.ofChange fnExactParseCalendarSpec)) fnExactParseCalendarCard

/-- THE TIED CARD OF 'laws.FnExactRepeatTrips'. -/
def fnExactRepeatTripsCard : Claim7 := { stood := { row := fnExactRepeatTripsRow, standIns := [], harness := (true, "c36c6e46a01c655131bbdb06bfebb3c21006b56889e4f4a2f1515b255159ad21"), looks := true }, kinds := [], alts := [], laidByText := true, laidKinds := [.data], laidTests := true, laidLooks := .later }
def FnExactRepeatTripsCardSaid : Prop := Claim7.holds Tryd.pinned (.plain (OpenSpec.ofChange fnExactRepeatTripsSpec)) fnExactRepeatTripsCard

/-- THE TIED CARD OF 'laws.FnRepeat'. -/
def fnRepeatCard : Claim7 := { stood := { row := fnRepeatRow, standIns := [], harness := (true, "c36c6e46a01c655131bbdb06bfebb3c21006b56889e4f4a2f1515b255159ad21"), looks := true }, kinds := [], alts := [], laidByText := true, laidKinds := [.data], laidTests := true, laidLooks := .later }
def FnRepeatCardSaid : Prop := Claim7.holds Tryd.pinned (.plain (OpenSpec.ofChange fnRepeatSpec)) fnRepeatCard

/-- THE TIED CARD OF 'laws.FnExactFormatNetwork'. -/
def fnExactFormatNetworkCard : Claim7 := { stood := { row := fnExactFormatNetworkRow, standIns := [], harness := (true, "c36c6e46a01c655131bbdb06bfebb3c21006b56889e4f4a2f1515b255159ad21"), looks := true }, kinds := [], alts := [], laidByText := true, laidKinds := [.data, .data, .data], laidTests := true, laidLooks := .later }
def FnExactFormatNetworkCardSaid : Prop := Claim7.holds Tryd.pinned (.plain (OpenSpec.ofChange fnExactFormatNetworkSpec)) fnExactFormatNetworkCard

/-- THE TIED CARD OF 'laws.FnExactFormatTimetable'. -/
def fnExactFormatTimetableCard : Claim7 := { stood := { row := fnExactFormatTimetableRow, standIns := [], harness := (true, "c36c6e46a01c655131bbdb06bfebb3c21006b56889e4f4a2f1515b255159ad21"), looks := true }, kinds := [], alts := [], laidByText := true, laidKinds := [.data, .data, .data], laidTests := true, laidLooks := .later }
def FnExactFormatTimetableCardSaid : Prop := Claim7.holds Tryd.pinned (.plain (OpenSpec.ofChange fnExactFormatTimetableSpec)) fnExactFormatTimetableCard

/-- THE TIED CARD OF 'laws.FnExactSameText'. -/
def fnExactSameTextCard : Claim7 := { stood := { row := fnExactSameTextRow, standIns := [], harness := (true, "c36c6e46a01c655131bbdb06bfebb3c21006b56889e4f4a2f1515b255159ad21"), looks := true }, kinds := [], alts := [], laidByText := true, laidKinds := [.data, .data, .data], laidTests := true, laidLooks := .later }
def FnExactSameTextCardSaid : Prop := Claim7.holds Tryd.pinned (.plain (OpenSpec.ofChange fnExactSameTextSpec)) fnExactSameTextCard

/-- THE SECOND FORM's CARD OF 'laws.FnExactFormatCalendar'. -/
def fnExactFormatCalendarUptoCard : Claim7 := { stood := { row := fnExactFormatCalendarUptoRow, standIns := [], harness := (true, "c36c6e46a01c655131bbdb06bfebb3c21006b56889e4f4a2f1515b255159ad21"), looks := true }, kinds := [], alts := [], laidByText := true, laidKinds := [.data, .data, .data], laidTests := true, laidLooks := .later }
def FnExactFormatCalendarUptoCardSaid : Prop := Claim7.holds Tryd.pinned (.plain (OpenSpec.upto fnExactFormatCalendarSpec)) fnExactFormatCalendarUptoCard

/-- THE SECOND FORM's CARD OF 'laws.FnExactParseCalendar'. -/
def fnExactParseCalendarUptoCard : Claim7 := { stood := { row := fnExactParseCalendarUptoRow, standIns := [], harness := (true, "c36c6e46a01c655131bbdb06bfebb3c21006b56889e4f4a2f1515b255159ad21"), looks := true }, kinds := [], alts := [], laidByText := true, laidKinds := [.data, .data, .data, .sentinel, .sentinel], laidTests := true, laidLooks := .later }
def FnExactParseCalendarUptoCardSaid : Prop := Claim7.holds Tryd.pinned (.plain (OpenSpec.upto fnExactParseCalendarSpec)) fnExactParseCalendarUptoCard

/-- THE SECOND FORM's CARD OF 'laws.FnExactRepeatTrips'. -/
def fnExactRepeatTripsUptoCard : Claim7 := { stood := { row := fnExactRepeatTripsUptoRow, standIns := [], harness := (true, "c36c6e46a01c655131bbdb06bfebb3c21006b56889e4f4a2f1515b255159ad21"), looks := true }, kinds := [], alts := [], laidByText := true, laidKinds := [.data], laidTests := true, laidLooks := .later }
def FnExactRepeatTripsUptoCardSaid : Prop := Claim7.holds Tryd.pinned (.plain (OpenSpec.upto fnExactRepeatTripsSpec)) fnExactRepeatTripsUptoCard

/-- THE SECOND FORM's CARD OF 'laws.FnRepeat'. -/
def fnRepeatUptoCard : Claim7 := { stood := { row := fnRepeatUptoRow, standIns := [], harness := (true, "c36c6e46a01c655131bbdb06bfebb3c21006b56889e4f4a2f1515b255159ad21"), looks := true }, kinds := [], alts := [], laidByText := true, laidKinds := [.data], laidTests := true, laidLooks := .later }
def FnRepeatUptoCardSaid : Prop := Claim7.holds Tryd.pinned (.plain (OpenSpec.upto fnRepeatSpec)) fnRepeatUptoCard

/-- THE SECOND FORM's CARD OF 'laws.FnExactFormatNetwork'. -/
def fnExactFormatNetworkUptoCard : Claim7 := { stood := { row := fnExactFormatNetworkUptoRow, standIns := [], harness := (true, "c36c6e46a01c655131bbdb06bfebb3c21006b56889e4f4a2f1515b255159ad21"), looks := true }, kinds := [], alts := [], laidByText := true, laidKinds := [.data, .data, .data], laidTests := true, laidLooks := .later }
def FnExactFormatNetworkUptoCardSaid : Prop := Claim7.holds Tryd.pinned (.plain (OpenSpec.upto fnExactFormatNetworkSpec)) fnExactFormatNetworkUptoCard

/-- THE SECOND FORM's CARD OF 'laws.FnExactFormatTimetable'. -/
def fnExactFormatTimetableUptoCard : Claim7 := { stood := { row := fnExactFormatTimetableUptoRow, standIns := [], harness := (true, "c36c6e46a01c655131bbdb06bfebb3c21006b56889e4f4a2f1515b255159ad21"), looks := true }, kinds := [], alts := [], laidByText := true, laidKinds := [.data, .data, .data], laidTests := true, laidLooks := .later }
def FnExactFormatTimetableUptoCardSaid : Prop := Claim7.holds Tryd.pinned (.plain (OpenSpec.upto fnExactFormatTimetableSpec)) fnExactFormatTimetableUptoCard

/-- THE SECOND FORM's CARD OF 'laws.FnExactSameText'. -/
def fnExactSameTextUptoCard : Claim7 := { stood := { row := fnExactSameTextUptoRow, standIns := [], harness := (true, "c36c6e46a01c655131bbdb06bfebb3c21006b56889e4f4a2f1515b255159ad21"), looks := true }, kinds := [], alts := [], laidByText := true, laidKinds := [.data, .data, .data], laidTests := true, laidLooks := .later }
def FnExactSameTextUptoCardSaid : Prop := Claim7.holds Tryd.pinned (.plain (OpenSpec.upto fnExactSameTextSpec)) fnExactSameTextUptoCard
end Rows
end Go.Proofs.YtffcgblionlhhaaDoor

/-
  DERIVED. GIVEN WITH THE SEED: THE CARDS: each row of YtbkgampfehjpaaaDoorRows.lean that lists a variable, with what it lists TIED to the program's text (the seventh form; the later family's looks); each row that meets fmt, with fmt's text TOLD by the authors' own Lean function (tested against real Go, not proved from fmt's source: count such statements apart). THE CARD IS WHAT COUNTS. Prove the row's statement (the work); the ties are given (YtbkgampfehjpaaaDoorTie.lean); close each card by the builder's one call (the guide's Derived/Test/ToyasCard.lean, 'card_holds'). Laid BY PROGRAM, IN A SANDBOX (cutbox-door.mjs). By AI agents, Wed Nov 11 2026. No macro, syntax, notation, axiom, sorry.
-/
import Derived.Test.YtbkgampfehjpaaaDoorRows
import GoSem.ClaimSeven
namespace Go.Proofs.YtbkgampfehjpaaaDoor
namespace Rows

/-- THE TIED CARD OF 'laws.FnId'. -/
def fnIdCard : Claim7 := { stood := { row := fnIdRow, standIns := [], harness := (true, "a5b2854ac67996c066e910423dbca1a3a33f45b6a1e47ce4301ac602ad31860e"), looks := true }, kinds := [], alts := [], laidByText := true, laidKinds := [.data, .data, .data, .sentinel, .sentinel], laidTests := true, laidLooks := .later }
def FnIdCardSaid : Prop := Claim7.holds Tryd.pinned (.plain (OpenSpec.ofChange fnIdSpec)) fnIdCard

/-- THE TIED CARD OF 'laws.FnExactIdText'. -/
def fnExactIdTextCard : Claim7 := { stood := { row := fnExactIdTextRow, standIns := [], harness := (true, "a5b2854ac67996c066e910423dbca1a3a33f45b6a1e47ce4301ac602ad31860e"), looks := true }, kinds := [], alts := [], laidByText := true, laidKinds := [.data, .data, .data], laidTests := true, laidLooks := .later }
def FnExactIdTextCardSaid : Prop := Claim7.holds Tryd.pinned (.plain (OpenSpec.ofChange fnExactIdTextSpec)) fnExactIdTextCard

/-- THE TIED CARD OF 'laws.FnExactIdRead'. -/
def fnExactIdReadCard : Claim7 := { stood := { row := fnExactIdReadRow, standIns := [], harness := (true, "a5b2854ac67996c066e910423dbca1a3a33f45b6a1e47ce4301ac602ad31860e"), looks := true }, kinds := [], alts := [], laidByText := true, laidKinds := [.data, .data, .data, .sentinel, .sentinel], laidTests := true, laidLooks := .later }
def FnExactIdReadCardSaid : Prop := Claim7.holds Tryd.pinned (.plain (OpenSpec.ofChange fnExactIdReadSpec)) fnExactIdReadCard

/-- THE SECOND FORM's CARD OF 'laws.FnId'. -/
def fnIdUptoCard : Claim7 := { stood := { row := fnIdUptoRow, standIns := [], harness := (true, "a5b2854ac67996c066e910423dbca1a3a33f45b6a1e47ce4301ac602ad31860e"), looks := true }, kinds := [], alts := [], laidByText := true, laidKinds := [.data, .data, .data, .sentinel, .sentinel], laidTests := true, laidLooks := .later }
def FnIdUptoCardSaid : Prop := Claim7.holds Tryd.pinned (.plain (OpenSpec.upto fnIdSpec)) fnIdUptoCard

/-- THE SECOND FORM's CARD OF 'laws.FnExactIdText'. -/
def fnExactIdTextUptoCard : Claim7 := { stood := { row := fnExactIdTextUptoRow, standIns := [], harness := (true, "a5b2854ac67996c066e910423dbca1a3a33f45b6a1e47ce4301ac602ad31860e"), looks := true }, kinds := [], alts := [], laidByText := true, laidKinds := [.data, .data, .data], laidTests := true, laidLooks := .later }
def FnExactIdTextUptoCardSaid : Prop := Claim7.holds Tryd.pinned (.plain (OpenSpec.upto fnExactIdTextSpec)) fnExactIdTextUptoCard

/-- THE SECOND FORM's CARD OF 'laws.FnExactIdRead'. -/
def fnExactIdReadUptoCard : Claim7 := { stood := { row := fnExactIdReadUptoRow, standIns := [], harness := (true, "a5b2854ac67996c066e910423dbca1a3a33f45b6a1e47ce4301ac602ad31860e"), looks := true }, kinds := [], alts := [], laidByText := true, laidKinds := [.data, .data, .data, .sentinel, .sentinel], laidTests := true, laidLooks := .later }
def FnExactIdReadUptoCardSaid : Prop := Claim7.holds Tryd.pinned (.plain (OpenSpec.upto fnExactIdReadSpec)) fnExactIdReadUptoCard
end Rows
end Go.Proofs.YtbkgampfehjpaaaDoor

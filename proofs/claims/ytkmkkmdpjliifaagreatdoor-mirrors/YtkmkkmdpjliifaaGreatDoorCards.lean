/-
  DERIVED. GIVEN WITH THE SEED: THE CARDS: each row of YtkmkkmdpjliifaaGreatDoorRows.lean that lists a variable, with what it lists TIED to the program's text (the seventh form; the later family's looks); each row that meets fmt, with fmt's text TOLD by the authors' own Lean function (tested against real Go, not proved from fmt's source: count such statements apart). THE CARD IS WHAT COUNTS. Prove the row's statement (the work); the ties are given (YtkmkkmdpjliifaaGreatDoorTie.lean); close each card by the builder's one call (the guide's Derived/Test/ToyasCard.lean, 'card_holds'). Laid BY PROGRAM, IN A SANDBOX (cutbox-door.mjs). By AI agents, Wed Nov 11 2026. No macro, syntax, notation, axiom, sorry.
-/
import Derived.Test.YtkmkkmdpjliifaaGreatDoorRows
import GoSem.ClaimSeven
namespace Go.Proofs.YtkmkkmdpjliifaaGreatDoor
namespace Rows

/-- THE TIED CARD OF 'mandatelaw.Servers'. -/
def serversCard : Claim7 := { stood := { row := serversRow, standIns := [], harness := (true, "7fff7090d7ac9c49ea98dcb81a375346a71384cda6d14b61b910b9b53cf0c258"), looks := false }, kinds := [], alts := [], laidByText := true, laidKinds := [.data, .data, .data, .data, .data, .pinned], laidTests := true, laidLooks := .later }
def ServersCardSaid : Prop := Claim7.holds Tryz.pinned (.plain (OpenSpec.ofChange serversSpec)) serversCard

/-- THE TIED CARD OF 'mandatekeep.Mirrors'. -/
def mirrorsCard : Claim7 := { stood := { row := mirrorsRow, standIns := [], harness := (true, "7fff7090d7ac9c49ea98dcb81a375346a71384cda6d14b61b910b9b53cf0c258"), looks := false }, kinds := [], alts := [], laidByText := true, laidKinds := [.data, .data, .data, .data, .data, .pinned], laidTests := true, laidLooks := .later }
def MirrorsCardSaid : Prop := Claim7.holds Tryz.pinned (.plain (OpenSpec.ofChange mirrorsSpec)) mirrorsCard

/-- THE TIED CARD OF 'mandatekeep.Spaced'. -/
def spacedCard : Claim7 := { stood := { row := spacedRow, standIns := [], harness := (true, "7fff7090d7ac9c49ea98dcb81a375346a71384cda6d14b61b910b9b53cf0c258"), looks := false }, kinds := [], alts := [], laidByText := true, laidKinds := [.data, .data, .data, .data, .data, .pinned], laidTests := true, laidLooks := .later }
def SpacedCardSaid : Prop := Claim7.holds Tryz.pinned (.plain (OpenSpec.ofChange spacedSpec)) spacedCard

/-- THE TIED CARD OF 'mandatekeep.Narrowed'. -/
def narrowedCard : Claim7 := { stood := { row := narrowedRow, standIns := [], harness := (true, "7fff7090d7ac9c49ea98dcb81a375346a71384cda6d14b61b910b9b53cf0c258"), looks := false }, kinds := [], alts := [], laidByText := true, laidKinds := [.data, .data, .data, .data, .data, .pinned], laidTests := true, laidLooks := .later }
def NarrowedCardSaid : Prop := Claim7.holds Tryz.pinned (.plain (OpenSpec.ofChange narrowedSpec)) narrowedCard

/-- THE TIED CARD OF 'mandatekeep.Cascaded'. -/
def cascadedCard : Claim7 := { stood := { row := cascadedRow, standIns := [], harness := (true, "7fff7090d7ac9c49ea98dcb81a375346a71384cda6d14b61b910b9b53cf0c258"), looks := false }, kinds := [], alts := [], laidByText := true, laidKinds := [.data, .data, .data, .data, .data, .pinned], laidTests := true, laidLooks := .later }
def CascadedCardSaid : Prop := Claim7.holds Tryz.pinned (.plain (OpenSpec.ofChange cascadedSpec)) cascadedCard

/-- THE TIED CARD OF 'mandatekeep.Forged'. -/
def forgedCard : Claim7 := { stood := { row := forgedRow, standIns := [], harness := (true, "7fff7090d7ac9c49ea98dcb81a375346a71384cda6d14b61b910b9b53cf0c258"), looks := false }, kinds := [], alts := [], laidByText := true, laidKinds := [.data, .data, .data, .data, .data, .pinned], laidTests := true, laidLooks := .later }
def ForgedCardSaid : Prop := Claim7.holds Tryz.pinned (.plain (OpenSpec.ofChange forgedSpec)) forgedCard

/-- THE TIED CARD OF 'mandatekeep.Timed'. -/
def timedCard : Claim7 := { stood := { row := timedRow, standIns := [], harness := (true, "7fff7090d7ac9c49ea98dcb81a375346a71384cda6d14b61b910b9b53cf0c258"), looks := false }, kinds := [], alts := [], laidByText := true, laidKinds := [.data, .data, .data, .data, .data, .pinned], laidTests := true, laidLooks := .later }
def TimedCardSaid : Prop := Claim7.holds Tryz.pinned (.plain (OpenSpec.ofChange timedSpec)) timedCard

/-- THE SECOND FORM's CARD OF 'mandatelaw.Servers'. -/
def serversUptoCard : Claim7 := { stood := { row := serversUptoRow, standIns := [], harness := (true, "7fff7090d7ac9c49ea98dcb81a375346a71384cda6d14b61b910b9b53cf0c258"), looks := false }, kinds := [], alts := [], laidByText := true, laidKinds := [.data, .data, .data, .data, .data, .pinned], laidTests := true, laidLooks := .later }
def ServersUptoCardSaid : Prop := Claim7.holds Tryz.pinned (.plain (OpenSpec.upto serversSpec)) serversUptoCard

/-- THE SECOND FORM's CARD OF 'mandatekeep.Mirrors'. -/
def mirrorsUptoCard : Claim7 := { stood := { row := mirrorsUptoRow, standIns := [], harness := (true, "7fff7090d7ac9c49ea98dcb81a375346a71384cda6d14b61b910b9b53cf0c258"), looks := false }, kinds := [], alts := [], laidByText := true, laidKinds := [.data, .data, .data, .data, .data, .pinned], laidTests := true, laidLooks := .later }
def MirrorsUptoCardSaid : Prop := Claim7.holds Tryz.pinned (.plain (OpenSpec.upto mirrorsSpec)) mirrorsUptoCard

/-- THE SECOND FORM's CARD OF 'mandatekeep.Spaced'. -/
def spacedUptoCard : Claim7 := { stood := { row := spacedUptoRow, standIns := [], harness := (true, "7fff7090d7ac9c49ea98dcb81a375346a71384cda6d14b61b910b9b53cf0c258"), looks := false }, kinds := [], alts := [], laidByText := true, laidKinds := [.data, .data, .data, .data, .data, .pinned], laidTests := true, laidLooks := .later }
def SpacedUptoCardSaid : Prop := Claim7.holds Tryz.pinned (.plain (OpenSpec.upto spacedSpec)) spacedUptoCard

/-- THE SECOND FORM's CARD OF 'mandatekeep.Narrowed'. -/
def narrowedUptoCard : Claim7 := { stood := { row := narrowedUptoRow, standIns := [], harness := (true, "7fff7090d7ac9c49ea98dcb81a375346a71384cda6d14b61b910b9b53cf0c258"), looks := false }, kinds := [], alts := [], laidByText := true, laidKinds := [.data, .data, .data, .data, .data, .pinned], laidTests := true, laidLooks := .later }
def NarrowedUptoCardSaid : Prop := Claim7.holds Tryz.pinned (.plain (OpenSpec.upto narrowedSpec)) narrowedUptoCard

/-- THE SECOND FORM's CARD OF 'mandatekeep.Cascaded'. -/
def cascadedUptoCard : Claim7 := { stood := { row := cascadedUptoRow, standIns := [], harness := (true, "7fff7090d7ac9c49ea98dcb81a375346a71384cda6d14b61b910b9b53cf0c258"), looks := false }, kinds := [], alts := [], laidByText := true, laidKinds := [.data, .data, .data, .data, .data, .pinned], laidTests := true, laidLooks := .later }
def CascadedUptoCardSaid : Prop := Claim7.holds Tryz.pinned (.plain (OpenSpec.upto cascadedSpec)) cascadedUptoCard

/-- THE SECOND FORM's CARD OF 'mandatekeep.Forged'. -/
def forgedUptoCard : Claim7 := { stood := { row := forgedUptoRow, standIns := [], harness := (true, "7fff7090d7ac9c49ea98dcb81a375346a71384cda6d14b61b910b9b53cf0c258"), looks := false }, kinds := [], alts := [], laidByText := true, laidKinds := [.data, .data, .data, .data, .data, .pinned], laidTests := true, laidLooks := .later }
def ForgedUptoCardSaid : Prop := Claim7.holds Tryz.pinned (.plain (OpenSpec.upto forgedSpec)) forgedUptoCard

/-- THE SECOND FORM's CARD OF 'mandatekeep.Timed'. -/
def timedUptoCard : Claim7 := { stood := { row := timedUptoRow, standIns := [], harness := (true, "7fff7090d7ac9c49ea98dcb81a375346a71384cda6d14b61b910b9b53cf0c258"), looks := false }, kinds := [], alts := [], laidByText := true, laidKinds := [.data, .data, .data, .data, .data, .pinned], laidTests := true, laidLooks := .later }
def TimedUptoCardSaid : Prop := Claim7.holds Tryz.pinned (.plain (OpenSpec.upto timedSpec)) timedUptoCard
end Rows
end Go.Proofs.YtkmkkmdpjliifaaGreatDoor

/-
  DERIVED. GIVEN WITH THE SEED: THE CARDS: each row of YtkmkkmdpjliifaaDoorRows.lean that lists a variable, with what it lists TIED to the program's text (the seventh form; the later family's looks); each row that meets fmt, with fmt's text TOLD by the authors' own Lean function (tested against real Go, not proved from fmt's source: count such statements apart). THE CARD IS WHAT COUNTS. Prove the row's statement (the work); the ties are given (YtkmkkmdpjliifaaDoorTie.lean); close each card by the builder's one call (the guide's Derived/Test/ToyasCard.lean, 'card_holds'). Laid BY PROGRAM, IN A SANDBOX (cutbox-door.mjs). By AI agents, Wed Nov 11 2026. No macro, syntax, notation, axiom, sorry.
-/
import Derived.Test.YtkmkkmdpjliifaaDoorRows
import GoSem.ClaimSeven
namespace Go.Proofs.YtkmkkmdpjliifaaDoor
namespace Rows

/-- THE TIED CARD OF 'mandatelaw.Texts'. -/
def textsCard : Claim7 := { stood := { row := textsRow, standIns := [], harness := (true, "ffb2b2b3284f49e8efed8649c2321c561339042303bdd5dda1d84f2586cda5bd"), looks := false }, kinds := [], alts := [], laidByText := true, laidKinds := [.data], laidTests := true, laidLooks := .later }
def TextsCardSaid : Prop := Claim7.holds Tryd.pinned (.plain (OpenSpec.ofChange textsSpec)) textsCard

/-- THE TIED CARD OF 'mandatelaw.Jsons'. -/
def jsonsCard : Claim7 := { stood := { row := jsonsRow, standIns := [], harness := (true, "ffb2b2b3284f49e8efed8649c2321c561339042303bdd5dda1d84f2586cda5bd"), looks := false }, kinds := [], alts := [], laidByText := true, laidKinds := [.data, .data, .data, .data, .pinned], laidTests := true, laidLooks := .later }
def JsonsCardSaid : Prop := Claim7.holds Tryd.pinned (.plain (OpenSpec.ofChange jsonsSpec)) jsonsCard

/-- THE TIED CARD OF 'mandatelaw.News'. -/
def newsCard : Claim7 := { stood := { row := newsRow, standIns := [], harness := (true, "ffb2b2b3284f49e8efed8649c2321c561339042303bdd5dda1d84f2586cda5bd"), looks := false }, kinds := [], alts := [], laidByText := true, laidKinds := [.data, .pinned], laidTests := true, laidLooks := .later }
def NewsCardSaid : Prop := Claim7.holds Tryd.pinned (.plain (OpenSpec.ofChange newsSpec)) newsCard

/-- THE SECOND FORM's CARD OF 'mandatelaw.Texts'. -/
def textsUptoCard : Claim7 := { stood := { row := textsUptoRow, standIns := [], harness := (true, "ffb2b2b3284f49e8efed8649c2321c561339042303bdd5dda1d84f2586cda5bd"), looks := false }, kinds := [], alts := [], laidByText := true, laidKinds := [.data], laidTests := true, laidLooks := .later }
def TextsUptoCardSaid : Prop := Claim7.holds Tryd.pinned (.plain (OpenSpec.upto textsSpec)) textsUptoCard

/-- THE SECOND FORM's CARD OF 'mandatelaw.Jsons'. -/
def jsonsUptoCard : Claim7 := { stood := { row := jsonsUptoRow, standIns := [], harness := (true, "ffb2b2b3284f49e8efed8649c2321c561339042303bdd5dda1d84f2586cda5bd"), looks := false }, kinds := [], alts := [], laidByText := true, laidKinds := [.data, .data, .data, .data, .pinned], laidTests := true, laidLooks := .later }
def JsonsUptoCardSaid : Prop := Claim7.holds Tryd.pinned (.plain (OpenSpec.upto jsonsSpec)) jsonsUptoCard

/-- THE SECOND FORM's CARD OF 'mandatelaw.News'. -/
def newsUptoCard : Claim7 := { stood := { row := newsUptoRow, standIns := [], harness := (true, "ffb2b2b3284f49e8efed8649c2321c561339042303bdd5dda1d84f2586cda5bd"), looks := false }, kinds := [], alts := [], laidByText := true, laidKinds := [.data, .pinned], laidTests := true, laidLooks := .later }
def NewsUptoCardSaid : Prop := Claim7.holds Tryd.pinned (.plain (OpenSpec.upto newsSpec)) newsUptoCard
end Rows
end Go.Proofs.YtkmkkmdpjliifaaDoor

/-
  DERIVED. GIVEN WITH THE SEED: THE CARDS: each row of YtnpmipmdffbpdaaDoorRows.lean that lists a variable, with what it lists TIED to the program's text (the seventh form; the later family's looks); each row that meets fmt, with fmt's text TOLD by the authors' own Lean function (tested against real Go, not proved from fmt's source: count such statements apart). THE CARD IS WHAT COUNTS. Prove the row's statement (the work); the ties are given (YtnpmipmdffbpdaaDoorTie.lean); close each card by the builder's one call (the guide's Derived/Test/ToyasCard.lean, 'card_holds'). Laid BY PROGRAM, IN A SANDBOX (cutbox-door.mjs). By AI agents, Wed Nov 11 2026. No macro, syntax, notation, axiom, sorry.
-/
import Derived.Test.YtnpmipmdffbpdaaDoorRows
import GoSem.ClaimSeven
namespace Go.Proofs.YtnpmipmdffbpdaaDoor
namespace Rows

/-- THE TIED CARD OF 'camletlaw03.PosTells'. -/
def posTellsCard : Claim7 := { stood := { row := posTellsRow, standIns := [], harness := (true, "e1bbb0fd83cc1a0112e26856d1ffda5a8e90476aa227bf8fdc7dc197b2b2f2f1"), looks := false }, kinds := [], alts := [], laidByText := true, laidKinds := [.data, .data, .data], laidTests := true, laidLooks := .later }
def PosTellsCardSaid : Prop := Claim7.holds Tryd.pinned (.plain (OpenSpec.ofChange posTellsSpec)) posTellsCard

/-- THE TIED CARD OF 'camletlaw03.PosBack'. -/
def posBackCard : Claim7 := { stood := { row := posBackRow, standIns := [], harness := (true, "e1bbb0fd83cc1a0112e26856d1ffda5a8e90476aa227bf8fdc7dc197b2b2f2f1"), looks := false }, kinds := [], alts := [], laidByText := true, laidKinds := [.data, .data, .data], laidTests := true, laidLooks := .later }
def PosBackCardSaid : Prop := Claim7.holds Tryd.pinned (.plain (OpenSpec.ofChange posBackSpec)) posBackCard

/-- THE TIED CARD OF 'camletlaw03.PosRises'. -/
def posRisesCard : Claim7 := { stood := { row := posRisesRow, standIns := [], harness := (true, "e1bbb0fd83cc1a0112e26856d1ffda5a8e90476aa227bf8fdc7dc197b2b2f2f1"), looks := false }, kinds := [], alts := [], laidByText := true, laidKinds := [.data, .data, .data], laidTests := true, laidLooks := .later }
def PosRisesCardSaid : Prop := Claim7.holds Tryd.pinned (.plain (OpenSpec.ofChange posRisesSpec)) posRisesCard

/-- THE SECOND FORM's CARD OF 'camletlaw03.PosTells'. -/
def posTellsUptoCard : Claim7 := { stood := { row := posTellsUptoRow, standIns := [], harness := (true, "e1bbb0fd83cc1a0112e26856d1ffda5a8e90476aa227bf8fdc7dc197b2b2f2f1"), looks := false }, kinds := [], alts := [], laidByText := true, laidKinds := [.data, .data, .data], laidTests := true, laidLooks := .later }
def PosTellsUptoCardSaid : Prop := Claim7.holds Tryd.pinned (.plain (OpenSpec.upto posTellsSpec)) posTellsUptoCard

/-- THE SECOND FORM's CARD OF 'camletlaw03.PosBack'. -/
def posBackUptoCard : Claim7 := { stood := { row := posBackUptoRow, standIns := [], harness := (true, "e1bbb0fd83cc1a0112e26856d1ffda5a8e90476aa227bf8fdc7dc197b2b2f2f1"), looks := false }, kinds := [], alts := [], laidByText := true, laidKinds := [.data, .data, .data], laidTests := true, laidLooks := .later }
def PosBackUptoCardSaid : Prop := Claim7.holds Tryd.pinned (.plain (OpenSpec.upto posBackSpec)) posBackUptoCard

/-- THE SECOND FORM's CARD OF 'camletlaw03.PosRises'. -/
def posRisesUptoCard : Claim7 := { stood := { row := posRisesUptoRow, standIns := [], harness := (true, "e1bbb0fd83cc1a0112e26856d1ffda5a8e90476aa227bf8fdc7dc197b2b2f2f1"), looks := false }, kinds := [], alts := [], laidByText := true, laidKinds := [.data, .data, .data], laidTests := true, laidLooks := .later }
def PosRisesUptoCardSaid : Prop := Claim7.holds Tryd.pinned (.plain (OpenSpec.upto posRisesSpec)) posRisesUptoCard
end Rows
end Go.Proofs.YtnpmipmdffbpdaaDoor

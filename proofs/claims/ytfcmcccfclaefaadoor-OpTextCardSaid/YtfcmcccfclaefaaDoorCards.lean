/-
  DERIVED. GIVEN WITH THE SEED: THE CARDS: each row of YtfcmcccfclaefaaDoorRows.lean that lists a variable, with what it lists TIED to the program's text (the seventh form; the later family's looks); each row that meets fmt, with fmt's text TOLD by the authors' own Lean function (tested against real Go, not proved from fmt's source: count such statements apart). THE CARD IS WHAT COUNTS. Prove the row's statement (the work); the ties are given (YtfcmcccfclaefaaDoorTie.lean); close each card by the builder's one call (the guide's Derived/Test/ToyasCard.lean, 'card_holds'). Laid BY PROGRAM, IN A SANDBOX (cutbox-door.mjs). By AI agents, Wed Nov 11 2026. No macro, syntax, notation, axiom, sorry.
-/
import Derived.Test.YtfcmcccfclaefaaDoorRows
import GoSem.ClaimSeven
namespace Go.Proofs.YtfcmcccfclaefaaDoor
namespace Rows

/-- THE TIED CARD OF 'stithylaw12.OpInfos'. -/
def opInfosCard : Claim7 := { stood := { row := opInfosRow, standIns := [], harness := (true, "99515be87df2e810ff875fede70bbfcf3d512e0e2f2e1543fbcdc36451e3f2f5"), looks := false }, kinds := [], alts := [], laidByText := true, laidKinds := [.data, .data, .data], laidTests := true, laidLooks := .later }
def OpInfosCardSaid : Prop := Claim7.holds Tryd.pinned (.plain (OpenSpec.ofChange opInfosSpec)) opInfosCard

/-- THE TIED CARD OF 'stithylaw12.OpTexts'. -/
def opTextsCard : Claim7 := { stood := { row := opTextsRow, standIns := [], harness := (true, "99515be87df2e810ff875fede70bbfcf3d512e0e2f2e1543fbcdc36451e3f2f5"), looks := false }, kinds := [], alts := [], laidByText := true, laidKinds := [.data, .data, .data], laidTests := true, laidLooks := .later }
def OpTextsCardSaid : Prop := Claim7.holds Tryd.pinned (.plain (OpenSpec.ofChange opTextsSpec)) opTextsCard

/-- THE TIED CARD OF 'stithylaw12.OpNames'. -/
def opNamesCard : Claim7 := { stood := { row := opNamesRow, standIns := [], harness := (true, "99515be87df2e810ff875fede70bbfcf3d512e0e2f2e1543fbcdc36451e3f2f5"), looks := false }, kinds := [], alts := [], laidByText := true, laidKinds := [.data, .data, .data], laidTests := true, laidLooks := .later }
def OpNamesCardSaid : Prop := Claim7.holds Tryd.pinned (.plain (OpenSpec.ofChange opNamesSpec)) opNamesCard

/-- THE TIED CARD OF 'stithylaw12.OpJumps'. -/
def opJumpsCard : Claim7 := { stood := { row := opJumpsRow, standIns := [], harness := (true, "99515be87df2e810ff875fede70bbfcf3d512e0e2f2e1543fbcdc36451e3f2f5"), looks := false }, kinds := [], alts := [], laidByText := true, laidKinds := [.data, .data, .data], laidTests := true, laidLooks := .later }
def OpJumpsCardSaid : Prop := Claim7.holds Tryd.pinned (.plain (OpenSpec.ofChange opJumpsSpec)) opJumpsCard

/-- THE TIED CARD OF 'stithylaw12.OpText'. -/
def opTextCard : Claim7 := { stood := { row := opTextRow, standIns := [], harness := (true, "99515be87df2e810ff875fede70bbfcf3d512e0e2f2e1543fbcdc36451e3f2f5"), looks := false }, kinds := [], alts := [], laidByText := true, laidKinds := [.data, .data, .data], laidTests := true, laidLooks := .later }
def OpTextCardSaid : Prop := Claim7.holds Tryd.pinned (.plain (OpenSpec.ofChange opTextSpec)) opTextCard

/-- THE SECOND FORM's CARD OF 'stithylaw12.OpInfos'. -/
def opInfosUptoCard : Claim7 := { stood := { row := opInfosUptoRow, standIns := [], harness := (true, "99515be87df2e810ff875fede70bbfcf3d512e0e2f2e1543fbcdc36451e3f2f5"), looks := false }, kinds := [], alts := [], laidByText := true, laidKinds := [.data, .data, .data], laidTests := true, laidLooks := .later }
def OpInfosUptoCardSaid : Prop := Claim7.holds Tryd.pinned (.plain (OpenSpec.upto opInfosSpec)) opInfosUptoCard

/-- THE SECOND FORM's CARD OF 'stithylaw12.OpTexts'. -/
def opTextsUptoCard : Claim7 := { stood := { row := opTextsUptoRow, standIns := [], harness := (true, "99515be87df2e810ff875fede70bbfcf3d512e0e2f2e1543fbcdc36451e3f2f5"), looks := false }, kinds := [], alts := [], laidByText := true, laidKinds := [.data, .data, .data], laidTests := true, laidLooks := .later }
def OpTextsUptoCardSaid : Prop := Claim7.holds Tryd.pinned (.plain (OpenSpec.upto opTextsSpec)) opTextsUptoCard

/-- THE SECOND FORM's CARD OF 'stithylaw12.OpNames'. -/
def opNamesUptoCard : Claim7 := { stood := { row := opNamesUptoRow, standIns := [], harness := (true, "99515be87df2e810ff875fede70bbfcf3d512e0e2f2e1543fbcdc36451e3f2f5"), looks := false }, kinds := [], alts := [], laidByText := true, laidKinds := [.data, .data, .data], laidTests := true, laidLooks := .later }
def OpNamesUptoCardSaid : Prop := Claim7.holds Tryd.pinned (.plain (OpenSpec.upto opNamesSpec)) opNamesUptoCard

/-- THE SECOND FORM's CARD OF 'stithylaw12.OpJumps'. -/
def opJumpsUptoCard : Claim7 := { stood := { row := opJumpsUptoRow, standIns := [], harness := (true, "99515be87df2e810ff875fede70bbfcf3d512e0e2f2e1543fbcdc36451e3f2f5"), looks := false }, kinds := [], alts := [], laidByText := true, laidKinds := [.data, .data, .data], laidTests := true, laidLooks := .later }
def OpJumpsUptoCardSaid : Prop := Claim7.holds Tryd.pinned (.plain (OpenSpec.upto opJumpsSpec)) opJumpsUptoCard

/-- THE SECOND FORM's CARD OF 'stithylaw12.OpText'. -/
def opTextUptoCard : Claim7 := { stood := { row := opTextUptoRow, standIns := [], harness := (true, "99515be87df2e810ff875fede70bbfcf3d512e0e2f2e1543fbcdc36451e3f2f5"), looks := false }, kinds := [], alts := [], laidByText := true, laidKinds := [.data, .data, .data], laidTests := true, laidLooks := .later }
def OpTextUptoCardSaid : Prop := Claim7.holds Tryd.pinned (.plain (OpenSpec.upto opTextSpec)) opTextUptoCard
end Rows
end Go.Proofs.YtfcmcccfclaefaaDoor

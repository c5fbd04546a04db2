/-
  DERIVED. GIVEN WITH THE SEED: THE CARDS: each row of YtjffbjlniieciaaDoorRows.lean that lists a variable, with what it lists TIED to the program's text (the seventh form; the later family's looks); each row that meets fmt, with fmt's text TOLD by the authors' own Lean function (tested against real Go, not proved from fmt's source: count such statements apart). THE CARD IS WHAT COUNTS. Prove the row's statement (the work); the ties are given (YtjffbjlniieciaaDoorTie.lean); close each card by the builder's one call (the guide's Derived/Test/ToyasCard.lean, 'card_holds'). Laid BY PROGRAM, IN A SANDBOX (cutbox-door.mjs). By AI agents, Wed Nov 11 2026. No macro, syntax, notation, axiom, sorry.
-/
import Derived.Test.YtjffbjlniieciaaDoorRows
import GoSem.ClaimSeven
namespace Go.Proofs.YtjffbjlniieciaaDoor
namespace Rows

/-- THE TIED CARD OF 'hopperlaw16.NeedRights'. -/
def needRightsCard : Claim7 := { stood := { row := needRightsRow, standIns := [], harness := (true, "7a04a0a3f958439d8d7e268dce5f149b7b10d54dfab288b2593fa7756299093d"), looks := false }, kinds := [], alts := [], laidByText := true, laidKinds := [.data, .pinned], laidTests := true, laidLooks := .later }
def NeedRightsCardSaid : Prop := Claim7.holds Tryd.pinned (.plain (OpenSpec.ofChange needRightsSpec)) needRightsCard

/-- THE TIED CARD OF 'hopperlaw16.NeedSays'. -/
def needSaysCard : Claim7 := { stood := { row := needSaysRow, standIns := [], harness := (true, "7a04a0a3f958439d8d7e268dce5f149b7b10d54dfab288b2593fa7756299093d"), looks := false }, kinds := [], alts := [], laidByText := true, laidKinds := [.data, .pinned], laidTests := true, laidLooks := .later }
def NeedSaysCardSaid : Prop := Claim7.holds Tryd.pinned (.plain (OpenSpec.ofChange needSaysSpec)) needSaysCard

/-- THE TIED CARD OF 'hopperlaw16.NeedSkip'. -/
def needSkipCard : Claim7 := { stood := { row := needSkipRow, standIns := [], harness := (true, "7a04a0a3f958439d8d7e268dce5f149b7b10d54dfab288b2593fa7756299093d"), looks := false }, kinds := [], alts := [], laidByText := true, laidKinds := [.data, .pinned], laidTests := true, laidLooks := .later }
def NeedSkipCardSaid : Prop := Claim7.holds Tryd.pinned (.plain (OpenSpec.ofChange needSkipSpec)) needSkipCard

/-- THE TIED CARD OF 'hopperlaw16.NeedSkips'. -/
def needSkipsCard : Claim7 := { stood := { row := needSkipsRow, standIns := [], harness := (true, "7a04a0a3f958439d8d7e268dce5f149b7b10d54dfab288b2593fa7756299093d"), looks := false }, kinds := [], alts := [], laidByText := true, laidKinds := [.data, .pinned], laidTests := true, laidLooks := .later }
def NeedSkipsCardSaid : Prop := Claim7.holds Tryd.pinned (.plain (OpenSpec.ofChange needSkipsSpec)) needSkipsCard

/-- THE TIED CARD OF 'hopperlaw16.NeedExact'. -/
def needExactCard : Claim7 := { stood := { row := needExactRow, standIns := [], harness := (true, "7a04a0a3f958439d8d7e268dce5f149b7b10d54dfab288b2593fa7756299093d"), looks := false }, kinds := [], alts := [], laidByText := true, laidKinds := [.data, .pinned], laidTests := true, laidLooks := .later }
def NeedExactCardSaid : Prop := Claim7.holds Tryd.pinned (.plain (OpenSpec.ofChange needExactSpec)) needExactCard

/-- THE TIED CARD OF 'hopperlaw16.NeedRules'. -/
def needRulesCard : Claim7 := { stood := { row := needRulesRow, standIns := [], harness := (true, "7a04a0a3f958439d8d7e268dce5f149b7b10d54dfab288b2593fa7756299093d"), looks := false }, kinds := [], alts := [], laidByText := true, laidKinds := [.data, .pinned], laidTests := true, laidLooks := .later }
def NeedRulesCardSaid : Prop := Claim7.holds Tryd.pinned (.plain (OpenSpec.ofChange needRulesSpec)) needRulesCard

/-- THE TIED CARD OF 'hopperlaw16.NeedKeeps'. -/
def needKeepsCard : Claim7 := { stood := { row := needKeepsRow, standIns := [], harness := (true, "7a04a0a3f958439d8d7e268dce5f149b7b10d54dfab288b2593fa7756299093d"), looks := false }, kinds := [], alts := [], laidByText := true, laidKinds := [.data, .pinned], laidTests := true, laidLooks := .later }
def NeedKeepsCardSaid : Prop := Claim7.holds Tryd.pinned (.plain (OpenSpec.ofChange needKeepsSpec)) needKeepsCard

/-- THE SECOND FORM's CARD OF 'hopperlaw16.NeedRights'. -/
def needRightsUptoCard : Claim7 := { stood := { row := needRightsUptoRow, standIns := [], harness := (true, "7a04a0a3f958439d8d7e268dce5f149b7b10d54dfab288b2593fa7756299093d"), looks := false }, kinds := [], alts := [], laidByText := true, laidKinds := [.data, .pinned], laidTests := true, laidLooks := .later }
def NeedRightsUptoCardSaid : Prop := Claim7.holds Tryd.pinned (.plain (OpenSpec.upto needRightsSpec)) needRightsUptoCard

/-- THE SECOND FORM's CARD OF 'hopperlaw16.NeedSays'. -/
def needSaysUptoCard : Claim7 := { stood := { row := needSaysUptoRow, standIns := [], harness := (true, "7a04a0a3f958439d8d7e268dce5f149b7b10d54dfab288b2593fa7756299093d"), looks := false }, kinds := [], alts := [], laidByText := true, laidKinds := [.data, .pinned], laidTests := true, laidLooks := .later }
def NeedSaysUptoCardSaid : Prop := Claim7.holds Tryd.pinned (.plain (OpenSpec.upto needSaysSpec)) needSaysUptoCard

/-- THE SECOND FORM's CARD OF 'hopperlaw16.NeedSkip'. -/
def needSkipUptoCard : Claim7 := { stood := { row := needSkipUptoRow, standIns := [], harness := (true, "7a04a0a3f958439d8d7e268dce5f149b7b10d54dfab288b2593fa7756299093d"), looks := false }, kinds := [], alts := [], laidByText := true, laidKinds := [.data, .pinned], laidTests := true, laidLooks := .later }
def NeedSkipUptoCardSaid : Prop := Claim7.holds Tryd.pinned (.plain (OpenSpec.upto needSkipSpec)) needSkipUptoCard

/-- THE SECOND FORM's CARD OF 'hopperlaw16.NeedSkips'. -/
def needSkipsUptoCard : Claim7 := { stood := { row := needSkipsUptoRow, standIns := [], harness := (true, "7a04a0a3f958439d8d7e268dce5f149b7b10d54dfab288b2593fa7756299093d"), looks := false }, kinds := [], alts := [], laidByText := true, laidKinds := [.data, .pinned], laidTests := true, laidLooks := .later }
def NeedSkipsUptoCardSaid : Prop := Claim7.holds Tryd.pinned (.plain (OpenSpec.upto needSkipsSpec)) needSkipsUptoCard

/-- THE SECOND FORM's CARD OF 'hopperlaw16.NeedExact'. -/
def needExactUptoCard : Claim7 := { stood := { row := needExactUptoRow, standIns := [], harness := (true, "7a04a0a3f958439d8d7e268dce5f149b7b10d54dfab288b2593fa7756299093d"), looks := false }, kinds := [], alts := [], laidByText := true, laidKinds := [.data, .pinned], laidTests := true, laidLooks := .later }
def NeedExactUptoCardSaid : Prop := Claim7.holds Tryd.pinned (.plain (OpenSpec.upto needExactSpec)) needExactUptoCard

/-- THE SECOND FORM's CARD OF 'hopperlaw16.NeedRules'. -/
def needRulesUptoCard : Claim7 := { stood := { row := needRulesUptoRow, standIns := [], harness := (true, "7a04a0a3f958439d8d7e268dce5f149b7b10d54dfab288b2593fa7756299093d"), looks := false }, kinds := [], alts := [], laidByText := true, laidKinds := [.data, .pinned], laidTests := true, laidLooks := .later }
def NeedRulesUptoCardSaid : Prop := Claim7.holds Tryd.pinned (.plain (OpenSpec.upto needRulesSpec)) needRulesUptoCard

/-- THE SECOND FORM's CARD OF 'hopperlaw16.NeedKeeps'. -/
def needKeepsUptoCard : Claim7 := { stood := { row := needKeepsUptoRow, standIns := [], harness := (true, "7a04a0a3f958439d8d7e268dce5f149b7b10d54dfab288b2593fa7756299093d"), looks := false }, kinds := [], alts := [], laidByText := true, laidKinds := [.data, .pinned], laidTests := true, laidLooks := .later }
def NeedKeepsUptoCardSaid : Prop := Claim7.holds Tryd.pinned (.plain (OpenSpec.upto needKeepsSpec)) needKeepsUptoCard
end Rows
end Go.Proofs.YtjffbjlniieciaaDoor

/-
  NARROWER THAN 'FOR EVERY INPUT', by the rows' own cells (each row's printed sentence says how): SuiteSigns: laid · SuiteReal: laid · SuiteApart: laid · SuiteHides: laid · SuiteOpens: laid · SuiteOnce: laid · SuiteTwo: laid.
  DERIVED. THE GIVEN ROWS OF THIS SEAT. 7 by the template 'for every input the law returns true; each argument reads behind the call as it read before'; 0 by the template 'total and deterministic' (their statements: YtbblokikhocdfaaDoorTotals.lean).
  GIVEN WITH THE SEED: the statements are not yours to turn. If you find one false, say at which input.
  Laid BY PROGRAM, IN A SANDBOX (cutbox-rows.mjs): the forced cells as the released guide's own fill.sh prints them over the translation 9d080beb6a2307d0… (all of the seat's roots in one cut). By AI agents, Wed Nov 11 2026. No macro, syntax, notation, axiom, sorry.
-/
import Derived.Test.YtbblokikhocdfaaDoorChecked
import GoSem.Claim
import GoSem.ClaimJoined
import GoSem.ClaimMapViews
import Derived.JoinedTies
import Derived.KernelRfl
namespace Go.Proofs.YtbblokikhocdfaaDoor
/- THE CELL 'sum', in the pinned program and in every row, IS THE sha256 OF THE DUMP (.gsa) THAT YtbblokikhocdfaaDoorProg.lean LOADS. Nothing in Lean hashes anything: it is a label: what it is worth is what the hold of that sum in a sandbox is worth. -/
noncomputable def Tryd.pinned : Pinned := { name := "ytbblokikhocdfaadoor", sum := "9d080beb6a2307d0acf9641e841cc5c3a3e3b333baba28829c293591dbb799ef", checked := Tryd.checked }
namespace Rows
def none {H : Type} : Left H := { results := [], args := [] }

/- WHAT THE LISTED PACKAGE-LEVEL VARIABLES READ AS WHEN THE CALL BEGINS. Each datum BY PROGRAM (the guide's laid-datum.mjs) off the statement by which the dump's own 'gosem.cut.vars' lays the variable. In a bare row this is a premise. The card (YtbblokikhocdfaaDoorCards.lean) ties it to the program's text. -/
def laid_locket_sha_cubeRoots {H : Type} : DataW H := .agg [.lit (.int .u32 1116352408), .lit (.int .u32 1899447441), .lit (.int .u32 3049323471), .lit (.int .u32 3921009573), .lit (.int .u32 961987163), .lit (.int .u32 1508970993), .lit (.int .u32 2453635748), .lit (.int .u32 2870763221), .lit (.int .u32 3624381080), .lit (.int .u32 310598401), .lit (.int .u32 607225278), .lit (.int .u32 1426881987), .lit (.int .u32 1925078388), .lit (.int .u32 2162078206), .lit (.int .u32 2614888103), .lit (.int .u32 3248222580), .lit (.int .u32 3835390401), .lit (.int .u32 4022224774), .lit (.int .u32 264347078), .lit (.int .u32 604807628), .lit (.int .u32 770255983), .lit (.int .u32 1249150122), .lit (.int .u32 1555081692), .lit (.int .u32 1996064986), .lit (.int .u32 2554220882), .lit (.int .u32 2821834349), .lit (.int .u32 2952996808), .lit (.int .u32 3210313671), .lit (.int .u32 3336571891), .lit (.int .u32 3584528711), .lit (.int .u32 113926993), .lit (.int .u32 338241895), .lit (.int .u32 666307205), .lit (.int .u32 773529912), .lit (.int .u32 1294757372), .lit (.int .u32 1396182291), .lit (.int .u32 1695183700), .lit (.int .u32 1986661051), .lit (.int .u32 2177026350), .lit (.int .u32 2456956037), .lit (.int .u32 2730485921), .lit (.int .u32 2820302411), .lit (.int .u32 3259730800), .lit (.int .u32 3345764771), .lit (.int .u32 3516065817), .lit (.int .u32 3600352804), .lit (.int .u32 4094571909), .lit (.int .u32 275423344), .lit (.int .u32 430227734), .lit (.int .u32 506948616), .lit (.int .u32 659060556), .lit (.int .u32 883997877), .lit (.int .u32 958139571), .lit (.int .u32 1322822218), .lit (.int .u32 1537002063), .lit (.int .u32 1747873779), .lit (.int .u32 1955562222), .lit (.int .u32 2024104815), .lit (.int .u32 2227730452), .lit (.int .u32 2361852424), .lit (.int .u32 2428436474), .lit (.int .u32 2756734187), .lit (.int .u32 3204031479), .lit (.int .u32 3329325298)]

/-- 'locketlaw07.SuiteSigns': WHATEVER THE INPUT: true; the input reads as it did. -/
def suiteSignsSpec : ChangeSpec := { name := "suiteSigns", fn := fun _ => fun
  | [d] => { results := [.lit (.bool true)], args := [d] }
  | _ => none }
def suiteSignsRow : OpenClaim := { program := "ytbblokikhocdfaadoor", sum := "9d080beb6a2307d0acf9641e841cc5c3a3e3b333baba28829c293591dbb799ef", func := "locket/locketlaw07.SuiteSigns", spec := "suiteSigns", inPlace := ["internal/bytealg.MakeNoZero"], named := ["locket/sha.cubeRoots"], plainKeys := false, apart := false, laid := [("locket/sha.cubeRoots", laid_locket_sha_cubeRoots)] }
def SuiteSignsSaid : Prop := suiteSignsRow.holds Tryd.pinned (OpenSpec.ofChange suiteSignsSpec)

/-- ITS FALSE NEIGHBOUR: 'it returns false'. Refute it at one input. -/
def suiteSignsWrong : ChangeSpec := { name := "suiteSigns", fn := fun _ => fun
  | [d] => { results := [.lit (.bool false)], args := [d] }
  | _ => none }
def SuiteSignsWrongFalsely : Prop := suiteSignsRow.holds Tryd.pinned (OpenSpec.ofChange suiteSignsWrong)

/-- 'locketlaw07.SuiteReal': WHATEVER THE INPUT: true; the input reads as it did. -/
def suiteRealSpec : ChangeSpec := { name := "suiteReal", fn := fun _ => fun
  | [d1, d2, d3, d4, d5] => { results := [.lit (.bool true)], args := [d1, d2, d3, d4, d5] }
  | _ => none }
def suiteRealRow : OpenClaim := { program := "ytbblokikhocdfaadoor", sum := "9d080beb6a2307d0acf9641e841cc5c3a3e3b333baba28829c293591dbb799ef", func := "locket/locketlaw07.SuiteReal", spec := "suiteReal", inPlace := ["internal/bytealg.MakeNoZero"], named := ["locket/sha.cubeRoots"], plainKeys := false, apart := false, laid := [("locket/sha.cubeRoots", laid_locket_sha_cubeRoots)] }
def SuiteRealSaid : Prop := suiteRealRow.holds Tryd.pinned (OpenSpec.ofChange suiteRealSpec)

/-- ITS FALSE NEIGHBOUR: 'it returns false'. Refute it at one input. -/
def suiteRealWrong : ChangeSpec := { name := "suiteReal", fn := fun _ => fun
  | [d1, d2, d3, d4, d5] => { results := [.lit (.bool false)], args := [d1, d2, d3, d4, d5] }
  | _ => none }
def SuiteRealWrongFalsely : Prop := suiteRealRow.holds Tryd.pinned (OpenSpec.ofChange suiteRealWrong)

/-- 'locketlaw07.SuiteApart': WHATEVER THE INPUT: true; the input reads as it did. -/
def suiteApartSpec : ChangeSpec := { name := "suiteApart", fn := fun _ => fun
  | [d1, d2, d3, d4] => { results := [.lit (.bool true)], args := [d1, d2, d3, d4] }
  | _ => none }
def suiteApartRow : OpenClaim := { program := "ytbblokikhocdfaadoor", sum := "9d080beb6a2307d0acf9641e841cc5c3a3e3b333baba28829c293591dbb799ef", func := "locket/locketlaw07.SuiteApart", spec := "suiteApart", inPlace := ["internal/bytealg.MakeNoZero"], named := ["locket/sha.cubeRoots"], plainKeys := false, apart := false, laid := [("locket/sha.cubeRoots", laid_locket_sha_cubeRoots)] }
def SuiteApartSaid : Prop := suiteApartRow.holds Tryd.pinned (OpenSpec.ofChange suiteApartSpec)

/-- ITS FALSE NEIGHBOUR: 'it returns false'. Refute it at one input. -/
def suiteApartWrong : ChangeSpec := { name := "suiteApart", fn := fun _ => fun
  | [d1, d2, d3, d4] => { results := [.lit (.bool false)], args := [d1, d2, d3, d4] }
  | _ => none }
def SuiteApartWrongFalsely : Prop := suiteApartRow.holds Tryd.pinned (OpenSpec.ofChange suiteApartWrong)

/-- 'locketlaw07.SuiteHides': WHATEVER THE INPUT: true; the input reads as it did. -/
def suiteHidesSpec : ChangeSpec := { name := "suiteHides", fn := fun _ => fun
  | [d1, d2, d3, d4, d5] => { results := [.lit (.bool true)], args := [d1, d2, d3, d4, d5] }
  | _ => none }
def suiteHidesRow : OpenClaim := { program := "ytbblokikhocdfaadoor", sum := "9d080beb6a2307d0acf9641e841cc5c3a3e3b333baba28829c293591dbb799ef", func := "locket/locketlaw07.SuiteHides", spec := "suiteHides", inPlace := ["internal/bytealg.MakeNoZero"], named := ["locket/sha.cubeRoots"], plainKeys := false, apart := false, laid := [("locket/sha.cubeRoots", laid_locket_sha_cubeRoots)] }
def SuiteHidesSaid : Prop := suiteHidesRow.holds Tryd.pinned (OpenSpec.ofChange suiteHidesSpec)

/-- ITS FALSE NEIGHBOUR: 'it returns false'. Refute it at one input. -/
def suiteHidesWrong : ChangeSpec := { name := "suiteHides", fn := fun _ => fun
  | [d1, d2, d3, d4, d5] => { results := [.lit (.bool false)], args := [d1, d2, d3, d4, d5] }
  | _ => none }
def SuiteHidesWrongFalsely : Prop := suiteHidesRow.holds Tryd.pinned (OpenSpec.ofChange suiteHidesWrong)

/-- 'locketlaw07.SuiteOpens': WHATEVER THE INPUT: true; the input reads as it did. -/
def suiteOpensSpec : ChangeSpec := { name := "suiteOpens", fn := fun _ => fun
  | [d1, d2, d3, d4, d5, d6] => { results := [.lit (.bool true)], args := [d1, d2, d3, d4, d5, d6] }
  | _ => none }
def suiteOpensRow : OpenClaim := { program := "ytbblokikhocdfaadoor", sum := "9d080beb6a2307d0acf9641e841cc5c3a3e3b333baba28829c293591dbb799ef", func := "locket/locketlaw07.SuiteOpens", spec := "suiteOpens", inPlace := ["internal/bytealg.MakeNoZero"], named := ["locket/sha.cubeRoots"], plainKeys := false, apart := false, laid := [("locket/sha.cubeRoots", laid_locket_sha_cubeRoots)] }
def SuiteOpensSaid : Prop := suiteOpensRow.holds Tryd.pinned (OpenSpec.ofChange suiteOpensSpec)

/-- ITS FALSE NEIGHBOUR: 'it returns false'. Refute it at one input. -/
def suiteOpensWrong : ChangeSpec := { name := "suiteOpens", fn := fun _ => fun
  | [d1, d2, d3, d4, d5, d6] => { results := [.lit (.bool false)], args := [d1, d2, d3, d4, d5, d6] }
  | _ => none }
def SuiteOpensWrongFalsely : Prop := suiteOpensRow.holds Tryd.pinned (OpenSpec.ofChange suiteOpensWrong)

/-- 'locketlaw07.SuiteOnce': WHATEVER THE INPUT: true; the input reads as it did. -/
def suiteOnceSpec : ChangeSpec := { name := "suiteOnce", fn := fun _ => fun
  | [d1, d2] => { results := [.lit (.bool true)], args := [d1, d2] }
  | _ => none }
def suiteOnceRow : OpenClaim := { program := "ytbblokikhocdfaadoor", sum := "9d080beb6a2307d0acf9641e841cc5c3a3e3b333baba28829c293591dbb799ef", func := "locket/locketlaw07.SuiteOnce", spec := "suiteOnce", inPlace := ["internal/bytealg.MakeNoZero"], named := ["locket/sha.cubeRoots"], plainKeys := false, apart := false, laid := [("locket/sha.cubeRoots", laid_locket_sha_cubeRoots)] }
def SuiteOnceSaid : Prop := suiteOnceRow.holds Tryd.pinned (OpenSpec.ofChange suiteOnceSpec)

/-- ITS FALSE NEIGHBOUR: 'it returns false'. Refute it at one input. -/
def suiteOnceWrong : ChangeSpec := { name := "suiteOnce", fn := fun _ => fun
  | [d1, d2] => { results := [.lit (.bool false)], args := [d1, d2] }
  | _ => none }
def SuiteOnceWrongFalsely : Prop := suiteOnceRow.holds Tryd.pinned (OpenSpec.ofChange suiteOnceWrong)

/-- 'locketlaw07.SuiteTwo': WHATEVER THE INPUT: true; the input reads as it did. -/
def suiteTwoSpec : ChangeSpec := { name := "suiteTwo", fn := fun _ => fun
  | [d1, d2, d3, d4] => { results := [.lit (.bool true)], args := [d1, d2, d3, d4] }
  | _ => none }
def suiteTwoRow : OpenClaim := { program := "ytbblokikhocdfaadoor", sum := "9d080beb6a2307d0acf9641e841cc5c3a3e3b333baba28829c293591dbb799ef", func := "locket/locketlaw07.SuiteTwo", spec := "suiteTwo", inPlace := ["internal/bytealg.MakeNoZero"], named := ["locket/sha.cubeRoots"], plainKeys := false, apart := false, laid := [("locket/sha.cubeRoots", laid_locket_sha_cubeRoots)] }
def SuiteTwoSaid : Prop := suiteTwoRow.holds Tryd.pinned (OpenSpec.ofChange suiteTwoSpec)

/-- ITS FALSE NEIGHBOUR: 'it returns false'. Refute it at one input. -/
def suiteTwoWrong : ChangeSpec := { name := "suiteTwo", fn := fun _ => fun
  | [d1, d2, d3, d4] => { results := [.lit (.bool false)], args := [d1, d2, d3, d4] }
  | _ => none }
def SuiteTwoWrongFalsely : Prop := suiteTwoRow.holds Tryd.pinned (OpenSpec.ofChange suiteTwoWrong)

/- THE SECOND FORM. 'bulk': how many values and letters a reading holds, each counted each time it is reached (what is shared counts as often as it is met; a slice's spare places count too). A statement '..UptoSaid' is the law's where the arguments, and the package variables that the reading takes, are together of bulk at most 1048576: NARROWER than '..Said'. Prove '..Said' where nothing that the law and all that it calls make is longer than what came in: it says more and counts as full. Else prove '..UptoSaid'. A law counts once. -/
mutual
def uptoBulk {H : Type} : DataW H → Nat
  | .lit (.string bytes) => bytes.length + 1
  | .lit _ => 1
  | .nil => 1
  | .ptr d => uptoBulk d + 1
  | .slice elems spare => uptoBulkAll elems + uptoBulkAll spare + 1
  | .agg parts => uptoBulkAll parts + 1
  | .iface _ d => uptoBulk d + 1
  | .map entries => uptoBulkEntries entries + 1
  | .held _ => 1
def uptoBulkAll {H : Type} : List (DataW H) → Nat
  | [] => 0
  | d :: r => uptoBulk d + uptoBulkAll r
def uptoBulkEntries {H : Type} : List (Lit × DataW H) → Nat
  | [] => 0
  | x :: r => uptoBulkEntry x + uptoBulkEntries r
def uptoBulkEntry {H : Type} : Lit × DataW H → Nat
  | (.string bytes, d) => bytes.length + uptoBulk d + 1
  | (_, d) => uptoBulk d + 1
 end
def uptoSmall : (H : Type) → List (DataW H) → Bool := fun _ ds => decide (uptoBulkAll ds ≤ 1048576)
def OpenSpec.upto (s : _root_.Go.ChangeSpec) : _root_.Go.OpenSpec := { _root_.Go.OpenSpec.ofChange s with cond := some uptoSmall }

/-- 'locketlaw07.SuiteSigns', WHERE WHAT IT READS IS OF BULK AT MOST 1048576: true; the input reads as it did. -/
def suiteSignsUptoRow : OpenClaim := { program := "ytbblokikhocdfaadoor", sum := "9d080beb6a2307d0acf9641e841cc5c3a3e3b333baba28829c293591dbb799ef", func := "locket/locketlaw07.SuiteSigns", spec := "suiteSigns", inPlace := ["internal/bytealg.MakeNoZero"], named := ["locket/sha.cubeRoots"], plainKeys := false, apart := false, laid := [("locket/sha.cubeRoots", laid_locket_sha_cubeRoots)], narrowed := true }
def SuiteSignsUptoSaid : Prop := suiteSignsUptoRow.holds Tryd.pinned (OpenSpec.upto suiteSignsSpec)

/-- 'locketlaw07.SuiteReal', WHERE WHAT IT READS IS OF BULK AT MOST 1048576: true; the input reads as it did. -/
def suiteRealUptoRow : OpenClaim := { program := "ytbblokikhocdfaadoor", sum := "9d080beb6a2307d0acf9641e841cc5c3a3e3b333baba28829c293591dbb799ef", func := "locket/locketlaw07.SuiteReal", spec := "suiteReal", inPlace := ["internal/bytealg.MakeNoZero"], named := ["locket/sha.cubeRoots"], plainKeys := false, apart := false, laid := [("locket/sha.cubeRoots", laid_locket_sha_cubeRoots)], narrowed := true }
def SuiteRealUptoSaid : Prop := suiteRealUptoRow.holds Tryd.pinned (OpenSpec.upto suiteRealSpec)

/-- 'locketlaw07.SuiteApart', WHERE WHAT IT READS IS OF BULK AT MOST 1048576: true; the input reads as it did. -/
def suiteApartUptoRow : OpenClaim := { program := "ytbblokikhocdfaadoor", sum := "9d080beb6a2307d0acf9641e841cc5c3a3e3b333baba28829c293591dbb799ef", func := "locket/locketlaw07.SuiteApart", spec := "suiteApart", inPlace := ["internal/bytealg.MakeNoZero"], named := ["locket/sha.cubeRoots"], plainKeys := false, apart := false, laid := [("locket/sha.cubeRoots", laid_locket_sha_cubeRoots)], narrowed := true }
def SuiteApartUptoSaid : Prop := suiteApartUptoRow.holds Tryd.pinned (OpenSpec.upto suiteApartSpec)

/-- 'locketlaw07.SuiteHides', WHERE WHAT IT READS IS OF BULK AT MOST 1048576: true; the input reads as it did. -/
def suiteHidesUptoRow : OpenClaim := { program := "ytbblokikhocdfaadoor", sum := "9d080beb6a2307d0acf9641e841cc5c3a3e3b333baba28829c293591dbb799ef", func := "locket/locketlaw07.SuiteHides", spec := "suiteHides", inPlace := ["internal/bytealg.MakeNoZero"], named := ["locket/sha.cubeRoots"], plainKeys := false, apart := false, laid := [("locket/sha.cubeRoots", laid_locket_sha_cubeRoots)], narrowed := true }
def SuiteHidesUptoSaid : Prop := suiteHidesUptoRow.holds Tryd.pinned (OpenSpec.upto suiteHidesSpec)

/-- 'locketlaw07.SuiteOpens', WHERE WHAT IT READS IS OF BULK AT MOST 1048576: true; the input reads as it did. -/
def suiteOpensUptoRow : OpenClaim := { program := "ytbblokikhocdfaadoor", sum := "9d080beb6a2307d0acf9641e841cc5c3a3e3b333baba28829c293591dbb799ef", func := "locket/locketlaw07.SuiteOpens", spec := "suiteOpens", inPlace := ["internal/bytealg.MakeNoZero"], named := ["locket/sha.cubeRoots"], plainKeys := false, apart := false, laid := [("locket/sha.cubeRoots", laid_locket_sha_cubeRoots)], narrowed := true }
def SuiteOpensUptoSaid : Prop := suiteOpensUptoRow.holds Tryd.pinned (OpenSpec.upto suiteOpensSpec)

/-- 'locketlaw07.SuiteOnce', WHERE WHAT IT READS IS OF BULK AT MOST 1048576: true; the input reads as it did. -/
def suiteOnceUptoRow : OpenClaim := { program := "ytbblokikhocdfaadoor", sum := "9d080beb6a2307d0acf9641e841cc5c3a3e3b333baba28829c293591dbb799ef", func := "locket/locketlaw07.SuiteOnce", spec := "suiteOnce", inPlace := ["internal/bytealg.MakeNoZero"], named := ["locket/sha.cubeRoots"], plainKeys := false, apart := false, laid := [("locket/sha.cubeRoots", laid_locket_sha_cubeRoots)], narrowed := true }
def SuiteOnceUptoSaid : Prop := suiteOnceUptoRow.holds Tryd.pinned (OpenSpec.upto suiteOnceSpec)

/-- 'locketlaw07.SuiteTwo', WHERE WHAT IT READS IS OF BULK AT MOST 1048576: true; the input reads as it did. -/
def suiteTwoUptoRow : OpenClaim := { program := "ytbblokikhocdfaadoor", sum := "9d080beb6a2307d0acf9641e841cc5c3a3e3b333baba28829c293591dbb799ef", func := "locket/locketlaw07.SuiteTwo", spec := "suiteTwo", inPlace := ["internal/bytealg.MakeNoZero"], named := ["locket/sha.cubeRoots"], plainKeys := false, apart := false, laid := [("locket/sha.cubeRoots", laid_locket_sha_cubeRoots)], narrowed := true }
def SuiteTwoUptoSaid : Prop := suiteTwoUptoRow.holds Tryd.pinned (OpenSpec.upto suiteTwoSpec)

end Rows
end Go.Proofs.YtbblokikhocdfaaDoor

import Derived.Test.YtccfpbnkeaoicaaDoorIB
import Derived.Test.YtccfpbnkeaoicaaDoorRows
import Derived.Lib.LaidU8
import Derived.LaidLaws
import Derived.Lay
import Derived.KernelRfl
import Derived.ProofKit
import Derived.OpenShut
import Derived.MakeChecks
import Derived.SizedLaws
import Derived.Carry
import Derived.ChangeMaps5
/-! What the rows of stage 8 give. -/
namespace Go.Proofs.YtccfpbnkeaoicaaDoor
open Go Go.ChangeShapes Go.WideShapes Go.ChangeAt Go.RowKit
theorem own : ownKnob Tryd.prog.godebug = none := by kernel_rfl
theorem laid_out : laidOutB Tryd.prog = true := by kernel_rfl
theorem gRounds : Tryd.prog.globalNamed "docket/ident.rounds" = some 0 := by kernel_rfl
theorem tRounds : (Tryd.prog.globals[0]?).map (·.type) = some 67 := by kernel_rfl
theorem four_of {P : Program} {W : World} {base : Nat} {spare : Nat → Bool} {held : Bool} {fuel : Nat} {t : TypeId} {cs : List Value} {a b c d : Int} {p : List MemPlace} (i : Nat) {fs : Array Field} (ht : P.underlying t = some (.struct fs)) (hf : ∀ (i : Nat) (f : Field), fs[i]? = some f → P.underlying f.type = some (.int .u64) ∧ f.offset = i ∧ P.cellsOf f.type = 1) (hct : P.cellsOf t = fs.size)
    (h : DataW.trod (fun _ => ()) P W base spare held fuel t ((cs.drop (i * 4)).take 4) = some (.agg [.lit (.int .u64 a), .lit (.int .u64 b), .lit (.int .u64 c), .lit (.int .u64 d)], p)) :
    cs[i * 4]? = some (.int .u64 a) ∧ cs[i * 4 + 1]? = some (.int .u64 b) ∧ cs[i * 4 + 2]? = some (.int .u64 c) ∧ cs[i * 4 + 3]? = some (.int .u64 d) := by
  have e := Lib.ints_of_struct (zs := [a, b, c, d]) ht hf hct h
  have at' : ∀ j, j < 4 → cs[i * 4 + j]? = ([a, b, c, d].map fun z => Value.int .u64 z)[j]? := fun j hj => by
    rw [← e, List.getElem?_take_of_lt hj, List.getElem?_drop]
  exact ⟨at' 0 (by decide), at' 1 (by decide), at' 2 (by decide), at' 3 (by decide)⟩
theorem cU64 : Tryd.prog.cellsOf 22 = 1 := by kernel_rfl
theorem cUint : Tryd.prog.cellsOf 64 = 1 := by kernel_rfl
theorem cRound : Tryd.prog.cellsOf 66 = 4 := by kernel_rfl
/-- What the listed variable gives the walks. -/
theorem env_of {W : World} (h : laidMet Tryd.prog [("docket/ident.rounds", Rows.laid_docket_ident_rounds)] W) : RoundsAt W := by
  obtain ⟨g, t, cs, fuel, p, hg, hty, hvar, hd⟩ := Lib.laidMet.reads h (.head _)
  obtain rfl := Option.some.inj (gRounds.symm.trans hg)
  obtain rfl := Option.some.inj (tRounds.symm.trans hty)
  have at' : ∀ k, W.cell? ⟨0, k, none⟩ = cs.toList[k]? := fun k => by
    rw [World.var?_cell hg hvar k, ← Array.getElem?_toList]
  obtain ⟨f0, d0, q0, e0, t0⟩ := Lib.array_elem Tryd.underlying67 hd 0 (by decide)
  obtain ⟨f1, d1, q1, e1, t1⟩ := Lib.array_elem Tryd.underlying67 hd 1 (by decide)
  obtain ⟨f2, d2, q2, e2, t2⟩ := Lib.array_elem Tryd.underlying67 hd 2 (by decide)
  obtain rfl := Option.some.inj e0
  obtain rfl := Option.some.inj e1
  obtain rfl := Option.some.inj e2
  rw [cRound] at t0 t1 t2
  obtain ⟨a0, b0, c0, g0⟩ := four_of (cs := cs.toList) 0 Tryd.underlying66 (fun j f hj => by
    match j, hj with
    | 0, hj => simp at hj; subst hj; exact ⟨Tryd.underlying22, rfl, cU64⟩
    | 1, hj => simp at hj; subst hj; exact ⟨Tryd.underlying22, rfl, cU64⟩
    | 2, hj => simp at hj; subst hj; exact ⟨Tryd.underlying22, rfl, cU64⟩
    | 3, hj => simp at hj; subst hj; exact ⟨Tryd.underlying64, rfl, cUint⟩
    | j + 4, hj => simp at hj) (by rw [cRound]; rfl) t0
  obtain ⟨a1, b1, c1, g1⟩ := four_of (cs := cs.toList) 1 Tryd.underlying66 (fun j f hj => by
    match j, hj with
    | 0, hj => simp at hj; subst hj; exact ⟨Tryd.underlying22, rfl, cU64⟩
    | 1, hj => simp at hj; subst hj; exact ⟨Tryd.underlying22, rfl, cU64⟩
    | 2, hj => simp at hj; subst hj; exact ⟨Tryd.underlying22, rfl, cU64⟩
    | 3, hj => simp at hj; subst hj; exact ⟨Tryd.underlying64, rfl, cUint⟩
    | j + 4, hj => simp at hj) (by rw [cRound]; rfl) t1
  obtain ⟨a2, b2, c2, g2⟩ := four_of (cs := cs.toList) 2 Tryd.underlying66 (fun j f hj => by
    match j, hj with
    | 0, hj => simp at hj; subst hj; exact ⟨Tryd.underlying22, rfl, cU64⟩
    | 1, hj => simp at hj; subst hj; exact ⟨Tryd.underlying22, rfl, cU64⟩
    | 2, hj => simp at hj; subst hj; exact ⟨Tryd.underlying22, rfl, cU64⟩
    | 3, hj => simp at hj; subst hj; exact ⟨Tryd.underlying64, rfl, cUint⟩
    | j + 4, hj => simp at hj) (by rw [cRound]; rfl) t2
  exact ⟨(at' 0).trans a0, (at' 1).trans b0, (at' 2).trans c0, (at' 3).trans g0, (at' 4).trans a1, (at' 5).trans b1, (at' 6).trans c1, (at' 7).trans g1, (at' 8).trans a2, (at' 9).trans b2, (at' 10).trans c2, (at' 11).trans g2⟩
theorem u64_wf {i : Int} (h : (Lit.int .u64 i).wf = true) : ∃ n : Nat, i = (n : Int) ∧ n < M64 := by
  simp [Lit.wf] at h
  have h1 : IntKind.u64.min = 0 := by kernel_rfl
  have h2 : IntKind.u64.max = 18446744073709551615 := by kernel_rfl
  refine ⟨i.toNat, by omega, ?_⟩
  unfold M64
  omega
theorem four_list {α : Type} : ∀ {l : List α}, l.length = 4 → ∃ a b c d, l = [a, b, c, d]
  | [a, b, c, d], _ => ⟨a, b, c, d, rfl⟩
theorem five_list {α : Type} : ∀ {l : List α}, l.length = 5 → ∃ a b c d e, l = [a, b, c, d, e]
  | [a, b, c, d, e], _ => ⟨a, b, c, d, e, rfl⟩
theorem cStr : Tryd.prog.cellsOf 9 = 1 := by kernel_rfl
theorem cInt : Tryd.prog.cellsOf 3 = 1 := by kernel_rfl
end Go.Proofs.YtccfpbnkeaoicaaDoor

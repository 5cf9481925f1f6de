import Derived.Test.YtnlljodmkacmlaaGreatDoorKJ
import Derived.Test.YtnlljodmkacmlaaGreatDoorKA
/-! Choose: the code. -/
namespace Go.Proofs.YtnlljodmkacmlaaGreatDoor.Chk
open Go Go.RowKit

/-- A need as it lies in memory. -/
structure Nd where
  p : ByteArray
  op : Int
  k : Int
  x : Int
  s : ByteArray
  ns : List ByteArray
  its : List Tr
  an : Option Addr
  cn : Nat
  ai : Option Addr
  ci : Nat
def Nd.t (d : Nd) : Tr := .node d.k d.x d.s d.ns d.its
def Nd.cells (d : Nd) : List Value := [.string d.p, .int .i64 d.op, .int .i64 d.k, .int .i64 d.x, .string d.s, .slice d.an d.ns.length d.cn, .slice d.ai d.its.length d.ci]
/-- Needs in a row. -/
def NeedsAt (w : World) (a : Option Addr) (ds : List Nd) : Prop := ∀ (j : Nat) d, ds[j]? = some d → ∃ b o, a = some ⟨b, o, none⟩ ∧ ∀ (q : Nat) u, d.cells[q]? = some u → w.cell? ⟨b, o + j * 7 + q, none⟩ = some u
theorem NeedsAt.keep {w w' : World} {a : Option Addr} {ds : List Nd} (h : NeedsAt w a ds) (hb : Below w.heap.size w w') : NeedsAt w' a ds := fun j d hj => by
  obtain ⟨b, o, h1, h2⟩ := h j d hj
  exact ⟨b, o, h1, fun q u hq => Chk.stay hb (h2 q u hq)⟩
/-- The values of needs: what they read as, what Check tells of them. -/
structure NOk (w : World) (d : Nd) : Prop where
  its : ItemsAt' w d.ai d.its
  len : d.its.length ≤ 4611686018427387904
  small : SmallL d.its
  code : ∀ W, Below w.heap.size w W → Calls Tryz.prog 26 #[.agg #[.int .i64 d.k, .int .i64 d.x, .string d.s, .slice d.an d.ns.length d.cn, .slice d.ai d.its.length d.ci]] W fun e w' => e = .returned (.int .i64 (checkT 0 d.t)) ∧ Below W.heap.size W w'
  doc : ∀ W, Below w.heap.size w W → Calls Tryz.prog 69 #[.agg #[.int .i64 d.k, .int .i64 d.x, .string d.s, .slice d.an d.ns.length d.cn, .slice d.ai d.its.length d.ci]] W fun e w' => e = .returned (.int .i64 (checkT 0 d.t)) ∧ Below W.heap.size W w'
theorem NOk.keep {w w' : World} {d : Nd} (h : NOk w d) (hb : Below w.heap.size w w') : NOk w' d := ⟨items_keep h.its hb, h.len, h.small, fun W hW => h.code W (hb.trans (hW.mono hb.size)), fun W hW => h.doc W (hb.trans (hW.mono hb.size))⟩
def hit (L : List (Option ByteArray)) (d : Nd) (i : Nat) : Bool := match L[i]? with
  | some (some pt) => servesS pt d.p d.op d.t
  | _ => false
def rankS (op : Int) : Int := if op = 1 then 0 else if op = 6 then 1 else 2
/-- The indexes of the code, in a row of pointers. -/
def PAt (w : World) (a : Option Addr) (L : List (Option ByteArray)) : Prop := ∀ (i : Nat) o, L[i]? = some o → ∃ b of v, a = some ⟨b, of, none⟩ ∧ w.cell? ⟨b, of + i, none⟩ = some v ∧ ((o = none ∧ v = .pointer none) ∨ ∃ pt xb nm un pv ev kv, o = some pt ∧ v = .pointer (some ⟨xb, 0, none⟩) ∧ IxAt w xb nm pt un pv ev kv)
theorem PAt.keep {w w' : World} {a : Option Addr} {L : List (Option ByteArray)} (h : PAt w a L) (hb : Below w.heap.size w w') : PAt w' a L := fun i o hi => by
  obtain ⟨b, of, v, h1, h2, h3⟩ := h i o hi
  refine ⟨b, of, v, h1, Chk.stay hb h2, ?_⟩
  rcases h3 with h3 | ⟨pt, xb, nm, un, pv, ev, kv, e1, e2, e3⟩
  · exact .inl h3
  · exact .inr ⟨pt, xb, nm, un, pv, ev, kv, e1, e2, e3.keep hb⟩
set_option maxHeartbeats 2000000 in
set_option maxRecDepth 100000 in
theorem each_serves (L : List (Option ByteArray)) (d : Nd) (i : Nat) (v : Value) (nb : Nat) (w : World) (o : Option ByteArray) (hi : L[i]? = some o) (hv : (o = none ∧ v = .pointer none) ∨ ∃ pt xb nm un pv ev kv, o = some pt ∧ v = .pointer (some ⟨xb, 0, none⟩) ∧ IxAt w xb nm pt un pv ev kv) (hd : NOk w d) (hn : ∀ (q : Nat) u, d.cells[q]? = some u → w.cell? ⟨nb, q, none⟩ = some u) :
    Calls Tryz.prog 39 #[v, .pointer (some ⟨nb, 0, none⟩)] w fun e w' => e = .returned (.bool (hit L d i)) ∧ Below w.heap.size w w' := by
  have n0 := hn 0 _ rfl
  have n1 := hn 1 _ rfl
  have n2 := hn 2 _ rfl
  have n3 := hn 3 _ rfl
  have n4 := hn 4 _ rfl
  have n5 := hn 5 _ rfl
  have n6 := hn 6 _ rfl
  have hs : Hid (Calls Tryz.prog 14 #[v, .agg #[.string d.p, .int .i64 d.op, .int .i64 d.k, .int .i64 d.x, .string d.s, .slice d.an d.ns.length d.cn, .slice d.ai d.its.length d.ci]] w fun e w' => e = .returned (.bool (hit L d i)) ∧ Below w.heap.size w w') := by
    rcases hv with ⟨rfl, rfl⟩ | ⟨pt, xb, nm, un, pv, ev, kv, rfl, rfl, hX⟩
    · have : hit L d i = false := by unfold hit; rw [hi]
      rw [this]
      exact serves_nil _ _ _ _ _ _ _ _ _ _ _ w
    · have : hit L d i = servesS pt d.p d.op d.t := by unfold hit; rw [hi]
      rw [this]
      exact serves_any xb nm pt un pv ev kv d.p d.op d.k d.x d.s d.ns d.its d.an d.cn d.ai d.ci w hX hd.its hd.len _ rfl hd.code
  clear hn hv hd hi
  generalize hit L d i = r at hs ⊢
  go_enter Tryz.func39, Tryz.ntmps39
  go_wp2_with fail
  refine hs.out.mono ?_
  rintro e X1 ⟨rfl, hX1⟩
  replace hX1 := hid_e hX1
  clear hs n0 n1 n2 n3 n4 n5 n6
  go_wp2_with fail
  go_ret
  exact ⟨rfl, hX1.out⟩
/-- The first that serves, or none. -/
def First (L : List (Option ByteArray)) (d : Nd) (z : Int) : Prop := (z = -1 ∧ ∀ i, i < L.length → hit L d i = false) ∨ ∃ i : Nat, i < L.length ∧ z = (i : Int) ∧ hit L d i = true ∧ ∀ i', i' < i → hit L d i' = false
set_option maxHeartbeats 4000000 in
set_option maxRecDepth 100000 in
theorem idxptr (a : Option Addr) (c : Nat) (L : List (Option ByteArray)) (d : Nd) (nb : Nat) (w : World) (hP : PAt w a L) (hl : L.length ≤ 50) (hd : NOk w d) (hn : ∀ (q : Nat) u, d.cells[q]? = some u → w.cell? ⟨nb, q, none⟩ = some u) :
    Calls Tryz.prog 38 #[.slice a L.length c, .func (.func 39) #[] #[.pointer (some ⟨nb, 0, none⟩)]] w fun e w' => ∃ z : Int, e = .returned (.int .i64 z) ∧ First L d z ∧ Below w.heap.size w w' := by
  replace hP := hid_e hP
  replace hd := hid_e hd
  replace hn := hid_e hn
  go_enter Tryz.func38, Tryz.ntmps38
  go_wp2_with fail
  go_loopw [8] (fun i wr => ∃ q : Nat, q ≤ L.length ∧ i = .int .i64 q ∧ Below w.heap.size w wr ∧ Hid (∀ i', i' < q → hit L d i' = false)) (fun i _ => L.length - (intOf i).toNat)
  case atStart => exact ⟨0, Nat.zero_le _, rfl, Below.refl _ _, hid_e (fun i' h => by omega)⟩
  case round =>
    rename_i wr
    obtain ⟨q, hq, rfl, hB, hN⟩ := hrel
    by_cases hlt : q < L.length
    · have hdd : decide ((q : Int) < (L.length : Int)) = true := by simp; omega
      have hq1 : (q : Int) < (L.length : Int) := by omega
      obtain ⟨o, ho⟩ : ∃ o, Hid (L[q]? = some o) := ⟨_, hid_e (List.getElem?_eq_getElem hlt)⟩
      obtain ⟨b, of, v, rfl, hv, hvo⟩ := hP.out.keep hB q o ho.out
      have hes := hid_e (each_serves L d q v nb wr o ho.out hvo (hd.out.keep hB) (fun q' u hu => Chk.stay hB (hn.out q' u hu)))
      obtain ⟨r, hr⟩ : ∃ r, Hid (hit L d q = r) := ⟨_, hid_e rfl⟩
      rw [hr.out] at hes
      replace hB := hid_e hB
      clear hvo
      go_wp2_with fail
      refine hes.out.mono ?_
      rintro e X1 ⟨rfl, hX1⟩
      replace hB := hid_e (hB.out.trans (hX1.mono hB.out.size))
      clear hX1 hes hv
      cases r
      · go_wp2_with fail
        go_roundw
        case rel => exact ⟨q + 1, by omega, by simp, hB.out, hid_e (fun i' h => by
          rcases Nat.lt_or_ge i' q with h1 | h1
          · exact hN.out i' h1
          · obtain rfl : i' = q := by omega
            exact hr.out)⟩
        case measure => simp [intOf]; omega
      · go_wp2_with fail
        go_ret
        exact ⟨q, rfl, .inr ⟨q, hlt, rfl, hr.out, hN.out⟩, hB.out⟩
    · obtain rfl : q = L.length := by omega
      have hdd : decide ((L.length : Int) < (L.length : Int)) = false := by simp
      go_wp2_with fail
      go_ret
      exact ⟨-1, rfl, .inl ⟨rfl, hN.out⟩, hB⟩
set_option maxHeartbeats 1000000 in
theorem irank_any (op : Int) (w : World) : Calls Tryz.prog 37 #[.int .i64 op] w fun e w' => e = .returned (.int .i64 (rankS op)) ∧ w' = w := by
  by_cases h1 : op = 1
  · subst h1
    go_enter Tryz.func37, Tryz.ntmps37
    go_wp2_with fail
    go_ret
    exact ⟨rfl, rfl⟩
  · have h1' : (op == 1) = false := by simpa using h1
    by_cases h6 : op = 6
    · subst h6
      go_enter Tryz.func37, Tryz.ntmps37
      go_wp2_with fail
      go_ret
      exact ⟨rfl, rfl⟩
    · have h6' : (op == 6) = false := by simpa using h6
      have e : Hid (rankS op = 2) := hid_e (by unfold rankS; rw [if_neg h1, if_neg h6])
      rw [e.out]
      go_enter Tryz.func37, Tryz.ntmps37
      go_wp2_with fail
      go_ret
      exact ⟨rfl, rfl⟩
end Go.Proofs.YtnlljodmkacmlaaGreatDoor.Chk

import Derived.Test.YtnlljodmkacmlaaGreatDoorKK
import Derived.Deep.Cut
/-! Choose: the code. -/
namespace Go.Proofs.YtnlljodmkacmlaaGreatDoor.Chk
open Go Go.RowKit

/-- Nothing serves ahead of class c and number k. -/
def NB (L : List (Option ByteArray)) (ds : List Nd) (c k : Nat) : Prop := ∀ (c' k' : Nat) d, (c' < c ∨ c' = c ∧ k' < k) → c' < 3 → ds[k']? = some d → rankS d.op = (c' : Int) → ∀ i, i < L.length → hit L d i = false
theorem NB.zero (L : List (Option ByteArray)) (ds : List Nd) : NB L ds 0 0 := fun c' k' d h => by omega
theorem NB.more {L : List (Option ByteArray)} {ds : List Nd} {c k : Nat} {d : Nd} (h : NB L ds c k) (hd : ds[k]? = some d) (hn : rankS d.op = (c : Int) → ∀ i, i < L.length → hit L d i = false) : NB L ds c (k + 1) := fun c' k' d' hb hc hd' hr => by
  rcases hb with hb | ⟨rfl, hb⟩
  · exact h c' k' d' (.inl hb) hc hd' hr
  · rcases Nat.lt_or_ge k' k with h1 | h1
    · exact h c' k' d' (.inr ⟨rfl, h1⟩) hc hd' hr
    · obtain rfl : k' = k := by omega
      obtain rfl : d = d' := Option.some.inj (hd.symm.trans hd')
      exact hn hr
theorem NB.next {L : List (Option ByteArray)} {ds : List Nd} {c : Nat} (h : NB L ds c ds.length) : NB L ds (c + 1) 0 := fun c' k' d' hb hc hd' hr => by
  rcases hb with hb | ⟨-, hb⟩
  · rcases Nat.lt_or_ge c' c with h1 | h1
    · exact h c' k' d' (.inl h1) hc hd' hr
    · obtain rfl : c' = c := by omega
      exact h c' k' d' (.inr ⟨rfl, (List.getElem?_eq_some_iff.1 hd').1⟩) hc hd' hr
  · omega
/-- What Choose answers. -/
def CPost (L : List (Option ByteArray)) (ds : List Nd) (zi zk : Int) (ok : Bool) : Prop := (ok = false ∧ zi = 0 ∧ zk = 0 ∧ NB L ds 3 0) ∨ (ok = true ∧ ∃ (c k i : Nat) (d : Nd), c < 3 ∧ ds[k]? = some d ∧ rankS d.op = (c : Int) ∧ zk = (k : Int) ∧ zi = (i : Int) ∧ i < L.length ∧ hit L d i = true ∧ (∀ i', i' < i → hit L d i' = false) ∧ NB L ds c k)
theorem CPost.same {L : List (Option ByteArray)} {ds : List Nd} {zi zk zi' zk' : Int} {ok ok' : Bool} (h : CPost L ds zi zk ok) (h' : CPost L ds zi' zk' ok') : zi = zi' ∧ zk = zk' ∧ ok = ok' := by
  rcases h with ⟨rfl, rfl, rfl, hn⟩ | ⟨rfl, c, k, i, d, h1, h2, h3, rfl, rfl, h6, h7, h8, h9⟩
  · rcases h' with ⟨rfl, rfl, rfl, hn'⟩ | ⟨rfl, c, k, i, d, h1, h2, h3, rfl, rfl, h6, h7, h8, h9⟩
    · exact ⟨rfl, rfl, rfl⟩
    · rw [hn c k d (.inl h1) h1 h2 h3 i h6] at h7
      cases h7
  · rcases h' with ⟨rfl, rfl, rfl, hn'⟩ | ⟨rfl, c', k', i', d', g1, g2, g3, rfl, rfl, g6, g7, g8, g9⟩
    · rw [hn' c k d (.inl h1) h1 h2 h3 i h6] at h7
      cases h7
    · have hc : c = c' ∧ k = k' := by
        rcases Nat.lt_trichotomy c c' with a | a | a
        · have := g9 c k d (.inl a) h1 h2 h3 i h6
          rw [this] at h7; cases h7
        · subst a
          rcases Nat.lt_trichotomy k k' with b | b | b
          · have := g9 c k d (.inr ⟨rfl, b⟩) h1 h2 h3 i h6
            rw [this] at h7; cases h7
          · exact ⟨rfl, b⟩
          · have := h9 c k' d' (.inr ⟨rfl, b⟩) g1 g2 g3 i' g6
            rw [this] at g7; cases g7
        · have := h9 c' k' d' (.inl a) g1 g2 g3 i' g6
          rw [this] at g7; cases g7
      obtain ⟨rfl, rfl⟩ := hc
      obtain rfl : d = d' := Option.some.inj (h2.symm.trans g2)
      have hi : i = i' := by
        rcases Nat.lt_trichotomy i i' with a | a | a
        · rw [g8 i a] at h7; cases h7
        · exact a
        · rw [h8 i' a] at g7; cases g7
      subst hi
      exact ⟨rfl, rfl, rfl⟩
set_option maxHeartbeats 4000000 in
set_option maxRecDepth 100000 in
theorem choose_any (a : Option Addr) (c0 : Nat) (L : List (Option ByteArray)) (b0 : Option Addr) (e0 : Nat) (ds : List Nd) (w : World) (hP : PAt w a L) (hl : L.length ≤ 50) (hD : NeedsAt w b0 ds) (hdl : ds.length ≤ 50) (hOk : ∀ d ∈ ds, NOk w d) :
    Calls Tryz.prog 18 #[.slice a L.length c0, .slice b0 ds.length e0] w fun e w' => ∃ (zi zk : Int) (ok : Bool), e = .returned (.tuple #[.int .i64 zi, .int .i64 zk, .bool ok]) ∧ CPost L ds zi zk ok ∧ Below w.heap.size w w' := by
  replace hP := hid_e hP
  replace hD := hid_e hD
  replace hOk := hid_e hOk
  go_enter Tryz.func18, Tryz.ntmps18
  go_wp2_with fail
  go_loopw [11] (fun cv wr => ∃ c : Nat, c ≤ 3 ∧ cv = .int .i64 c ∧ Below w.heap.size w wr ∧ Hid (NB L ds c 0)) (fun cv _ => 3 - (intOf cv).toNat)
  case atStart => exact ⟨0, by omega, rfl, Below.refl _ _, hid_e (NB.zero L ds)⟩
  case round =>
    rename_i wr
    obtain ⟨c, hc, rfl, hB, hN⟩ := hrel
    by_cases hlt : c < 3
    · have hdc : decide ((c : Int) < 3) = true := by simp; omega
      replace hB := hid_e hB
      go_wp2_with fail
      go_loopw [16] (fun kv wr' => ∃ k : Nat, k ≤ ds.length ∧ kv = .int .i64 k ∧ Below w.heap.size w wr' ∧ Hid (NB L ds c k)) (fun kv _ => ds.length - (intOf kv).toNat)
      case atStart => exact ⟨0, Nat.zero_le _, rfl, hB.out, hN⟩
      case round =>
        clear hN hB
        obtain ⟨k, hk, rfl, hB, hN⟩ := hrel
        by_cases hkl : k < ds.length
        · have hdk : decide ((k : Int) < (ds.length : Int)) = true := by simp; omega
          have hk1 : (k : Int) < (ds.length : Int) := by omega
          obtain ⟨d, hd⟩ : ∃ d, Hid (ds[k]? = some d) := ⟨_, hid_e (List.getElem?_eq_getElem hkl)⟩
          obtain ⟨b, o, rfl, hcs⟩ := hD.out.keep hB k d hd.out
          have hok := hid_e ((hOk.out d (List.mem_of_getElem? hd.out)).keep hB)
          obtain ⟨p, op, kk, x, s, ns, its, an, cn, ai, ci⟩ := d
          unfold Nd.cells at hcs
          have n0 := hcs 0 _ rfl
          have n1 := hcs 1 _ rfl
          have n2 := hcs 2 _ rfl
          have n3 := hcs 3 _ rfl
          have n4 := hcs 4 _ rfl
          have n5 := hcs 5 _ rfl
          have n6 := hcs 6 _ rfl
          rw [Nat.add_zero] at n0
          simp only at n0 n1 n2 n3 n4 n5 n6
          replace hB := hid_e hB
          clear hcs
          have hA := (Below.refl _ wr).alloc (Nat.le_refl _) (.cells #[.string p, .int .i64 op, .int .i64 kk, .int .i64 x, .string s, .slice an ns.length cn, .slice ai its.length ci] 30)
          have hnew := heap_alloc_new wr (.cells #[.string p, .int .i64 op, .int .i64 kk, .int .i64 x, .string s, .slice an ns.length cn, .slice ai its.length ci] 30)
          obtain ⟨X1, hX1⟩ : ∃ X1, Hid (wr.alloc (.cells #[.string p, .int .i64 op, .int .i64 kk, .int .i64 x, .string s, .slice an ns.length cn, .slice ai its.length ci] 30) = X1) := ⟨_, hid_e rfl⟩
          rw [hX1.out] at hA hnew
          obtain ⟨nb, hnb⟩ : ∃ n, Hid (wr.heap.size = n) := ⟨_, hid_e rfl⟩
          rw [hnb.out] at hnew
          obtain ⟨m0, m1, m2, m3, m4, m5, m6⟩ := need7 hnew
          replace hok := hid_e (hok.out.keep hA)
          replace hB := hid_e (hB.out.trans (hA.mono hB.out.size))
          have hrk := hid_e (irank_any op X1)
          have hbx : Hid (∀ (q : Nat) u, (⟨p, op, kk, x, s, ns, its, an, cn, ai, ci⟩ : Nd).cells[q]? = some u → X1.cell? ⟨nb, q, none⟩ = some u) := hid_e (fun q u hu => by
            rw [cell_of_row X1 nb q _ _ _ hnew]
            unfold Nd.cells at hu
            simpa using hu)
          have hix := hid_e (idxptr a c0 L ⟨p, op, kk, x, s, ns, its, an, cn, ai, ci⟩ nb X1 (hP.out.keep hB.out) hl hok.out hbx.out)
          clear hA hnew hok hbx
          go_upto_region 7 with (rw [hX1.out])
          rw [hnb.out]
          clear n0 n1 n2 n3 n4 n5 n6
          go_wp2_with fail
          refine hrk.out.mono ?_
          rintro e Z ⟨rfl, hZ⟩
          obtain rfl : X1 = Z := hZ.symm
          clear hZ hrk
          obtain ⟨rk, hrk⟩ : ∃ r, Hid (rankS op = r) := ⟨_, hid_e rfl⟩
          rw [hrk.out]
          by_cases hrc : rk = (c : Int)
          · have hrc' : (rk != (c : Int)) = false := by simpa using hrc
            replace hrc := hid_e hrc
            go_wp2_with fail
            refine hix.out.mono ?_
            rintro e X2 ⟨z, rfl, hF, hX2⟩
            replace hB := hid_e (hB.out.trans (hX2.mono hB.out.size))
            clear hX2 hix m0 m1 m2 m3 m4 m5 m6 hrc'
            rcases hF with ⟨rfl, hno⟩ | ⟨i, hi1, rfl, hi2, hi3⟩
            · replace hno := hid_e hno
              go_wp2_with fail
              go_roundw
              case rel => exact ⟨k + 1, by omega, by simp, hB.out, hid_e (hN.out.more hd.out (fun _ => hno.out))⟩
              case measure => simp [intOf]; omega
            · replace hi2 := hid_e hi2
              replace hi3 := hid_e hi3
              have hge : decide ((0 : Int) ≤ (i : Int)) = true := by simp
              go_wp2_with fail
              go_ret3
              exact ⟨i, k, true, rfl, .inr ⟨rfl, c, k, i, _, hlt, hd.out, hrk.out.trans hrc.out, rfl, rfl, hi1, hi2.out, hi3.out, hN.out⟩, hB.out⟩
          · have hrc' : (rk != (c : Int)) = true := by simpa using hrc
            replace hrc := hid_e hrc
            clear hix
            go_wp2_with fail
            go_roundw
            case rel => exact ⟨k + 1, by omega, by simp, hB.out, hid_e (hN.out.more hd.out (fun e => absurd (hrk.out.symm.trans e) hrc.out))⟩
            case measure => simp [intOf]; omega
        · obtain rfl : k = ds.length := by omega
          have hdk : decide ((ds.length : Int) < (ds.length : Int)) = false := by simp
          replace hB := hid_e hB
          go_wp2_with fail
          go_roundw
          case rel => exact ⟨c + 1, by omega, by simp, hB.out, hid_e hN.out.next⟩
          case measure => simp [intOf]; omega
    · obtain rfl : c = 3 := by omega
      replace hB := hid_e hB
      go_wp2_with fail
      go_ret3
      exact ⟨0, 0, false, rfl, .inl ⟨rfl, rfl, rfl, hN.out⟩, hB.out⟩
end Go.Proofs.YtnlljodmkacmlaaGreatDoor.Chk

import Derived.Test.YtdgdfpgekccibabCV
import Derived.Test.YtdgdfpgekccibabOW
/-! clocks: the document's Check, one (where its Sees is not there). -/
namespace Go.Proofs.Ytdgdfpgekccibab
open Go Go.RowKit
set_option maxHeartbeats 2000000 in
set_option maxRecDepth 100000 in
theorem refcheck_any (a : Option Addr) (cap : Nat) (l : List Ev) (clients : Int) (w : World) (hE : EvsAt w a l) (hl : l.length ≤ 9223372036854775807) :
    Calls Try.prog 8 #[.slice a l.length cap, .int .i64 clients] w fun e w' => e = .returned (.int .i64 (chk l clients)) ∧ w' = w := by
  by_cases h1 : clients < 0
  · have e1 : chk l clients = 2 := by unfold chk; rw [if_pos (.inl h1)]
    rw [e1]
    go_enter Try.func8, Try.ntmps8
    go_wp2
    go_ret
    exact ⟨rfl, rfl⟩
  by_cases h2 : 16 < clients
  · have e1 : chk l clients = 2 := by unfold chk; rw [if_pos (.inr h2)]
    rw [e1]
    go_enter Try.func8, Try.ntmps8
    go_wp2
    go_ret
    exact ⟨rfl, rfl⟩
  by_cases h3 : 1048576 < l.length
  · have e1 : chk l clients = 1 := by unfold chk; rw [if_neg (by omega), if_pos h3]
    rw [e1]
    go_enter Try.func8, Try.ntmps8
    go_wp2
    go_ret
    exact ⟨rfl, rfl⟩
  obtain ⟨v, hv⟩ : ∃ v, Hid (chk l clients = v) := ⟨_, rfl⟩
  rw [hv.out]
  go_enter Try.func8, Try.ntmps8
  go_wp2
  go_loopw [5] (fun i wr => ∃ k : Nat, k ≤ l.length ∧ i = .int .i64 k ∧ (∀ j e, j < k → l[j]? = some e → okEv clients e = true) ∧ w = wr) (fun i _ => l.length - (intOf i).toNat)
  case atStart => exact ⟨0, by omega, rfl, fun j e hj => by omega, rfl⟩
  case round =>
    obtain ⟨k, hk, rfl, hok, rfl⟩ := hrel
    by_cases hlt : k < l.length
    · obtain ⟨ev, hev⟩ : ∃ ev, Hid (l[k]? = some ev) := ⟨l[k], List.getElem?_eq_getElem hlt⟩
      obtain ⟨b, o, rfl, hb, y0, y1, y2, y3⟩ := hE k ev hev.out
      obtain ⟨c0, k0, o0, n0⟩ := ev
      simp only at y0 y1 y2 y3
      replace hok := hid_of hok
      replace hE := hid_of hE
      by_cases d1 : c0 < 0
      · have hno := hid_of (chk_no clients (by omega) (by omega) (by omega) hev.out (by unfold okEv; simp; omega))
        go_wp2_with fail
        go_ret
        exact ⟨ret_int (by rw [← hv.out, hno.out]), rfl⟩
      by_cases d2 : clients ≤ c0
      · have hno := hid_of (chk_no clients (by omega) (by omega) (by omega) hev.out (by unfold okEv; simp; omega))
        go_wp2_with fail
        go_ret
        exact ⟨ret_int (by rw [← hv.out, hno.out]), rfl⟩
      by_cases d3 : k0 < 1
      · have hno := hid_of (chk_no clients (by omega) (by omega) (by omega) hev.out (by unfold okEv; simp; omega))
        go_wp2_with fail
        go_ret
        exact ⟨ret_int (by rw [← hv.out, hno.out]), rfl⟩
      by_cases d4 : 11 < k0
      · have hno := hid_of (chk_no clients (by omega) (by omega) (by omega) hev.out (by unfold okEv; simp; omega))
        go_wp2_with fail
        go_ret
        exact ⟨ret_int (by rw [← hv.out, hno.out]), rfl⟩
      have hyes : Hid (okEv clients ⟨c0, k0, o0, n0⟩ = true) := by unfold Hid okEv; simp; omega
      go_wp2_with fail
      go_roundw
      case rel => exact ⟨k + 1, by omega, by go_num, fun j e hj he => by
        by_cases ej : j = k
        · subst ej
          rw [hev.out] at he
          cases he
          exact hyes.out
        · exact hok.out j e (by omega) he, trivial⟩
      case measure => simp [intOf]; omega
    · have e1 : chk l clients = 0 := by
        unfold chk
        rw [if_neg (by omega), if_neg (by omega), if_pos]
        rw [List.all_eq_true]
        intro e he
        obtain ⟨j, hj, rfl⟩ := List.getElem_of_mem he
        exact hok j _ (by omega) (List.getElem?_eq_getElem hj)
      replace e1 := hid_of e1
      go_wp2_with fail
      go_ret
      exact ⟨ret_int (by rw [← hv.out, e1.out]), rfl⟩
set_option maxHeartbeats 1000000 in
set_option maxRecDepth 100000 in
theorem refone_any (k1 o1 n1 k2 o2 n2 : Int) (w : World) : Calls Try.prog 34 #[.agg #[.int .i64 k1, .int .i64 o1, .int .i64 n1], .agg #[.int .i64 k2, .int .i64 o2, .int .i64 n2]] w fun e w' => e = .returned (.bool (decide (o1 = o2) && decide (n1 = n2))) ∧ Below w.heap.size w w' := by
  have hB : Hid (Below w.heap.size w ((w.alloc (.cells #[.int .i64 k1, .int .i64 o1, .int .i64 n1] 55)).alloc (.cells #[.int .i64 k2, .int .i64 o2, .int .i64 n2] 55))) := ((Below.refl _ w).alloc (Nat.le_refl _) _).alloc (by simp) _
  by_cases h1 : o1 = o2
  · by_cases h2 : n1 = n2
    · subst h1 h2
      go_enter Try.func34, Try.ntmps34
      go_wp2
      exact bodyPost_ret (v := .bool true) (by simp [results, Try.results34, go_sem]) rfl ⟨by simp, hB.out⟩
    · subst h1
      have hd : decide (n1 = n2) = false := decide_eq_false h2
      go_enter Try.func34, Try.ntmps34
      go_wp2
      exact bodyPost_ret (v := .bool false) (by simp [results, Try.results34, go_sem, h2]) rfl ⟨by rw [hd]; simp, hB.out⟩
  · have hd : decide (o1 = o2) = false := decide_eq_false h1
    go_enter Try.func34, Try.ntmps34
    go_wp2
    exact bodyPost_ret (v := .bool false) (by simp [results, Try.results34, go_sem]) rfl ⟨by rw [hd]; simp, hB.out⟩
end Go.Proofs.Ytdgdfpgekccibab

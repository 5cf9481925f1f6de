import Derived.Test.YtelmdbfddmpaaaaA10
namespace Go.Proofs.Ytelmdbfddmpaaaa
open Go Go.RowKit

/-- The first k + 1 texts with a dot between two. -/
def pre (x : ByteArray) (r : List ByteArray) : Nat → ByteArray
  | 0 => x
  | k + 1 => pre x r k ++ ⟨#[46]⟩ ++ r.getD k ⟨#[]⟩
theorem pre_list (x : ByteArray) (r : List ByteArray) : ∀ k, k ≤ r.length → (pre x r k).data.toList = x.data.toList ++ Lib.joinTail [46] ((r.map (·.data.toList)).take k)
  | 0, _ => by simp [pre, Lib.joinTail]
  | k + 1, h => by
    have hk : r[k]? = some (r.getD k ⟨#[]⟩) := by
      rw [List.getD_eq_getElem?_getD, List.getElem?_eq_getElem (by omega)]; rfl
    rw [Lib.joinTail_take_succ [46] _ k (r.getD k ⟨#[]⟩).data.toList (by rw [List.getElem?_map, hk]; rfl)]
    have ih := pre_list x r k (by omega)
    unfold pre
    rw [ByteArray.data_append, ByteArray.data_append, Array.toList_append, Array.toList_append, ih]
    simp
theorem pre_joined (x : ByteArray) (r : List ByteArray) : pre x r r.length = joined (x :: r) := by
  apply ByteArray.ext
  apply Array.toList_inj.1
  rw [pre_list x r _ (Nat.le_refl _)]
  unfold joined
  rw [List.map_cons, Lib.join_cons, List.take_of_length_le (by simp)]
theorem pre_size (x : ByteArray) (r : List ByteArray) (hx : x.size ≤ 64) (hr : ∀ s ∈ r, s.size ≤ 64) : ∀ k, k ≤ r.length → (pre x r k).size ≤ 64 + k * 65
  | 0, _ => by simp [pre]; exact hx
  | k + 1, h => by
    have hk : r[k]? = some (r.getD k ⟨#[]⟩) := by
      rw [List.getD_eq_getElem?_getD, List.getElem?_eq_getElem (by omega)]; rfl
    have := hr _ (List.mem_of_getElem? hk)
    have ih := pre_size x r hx hr k (by omega)
    unfold pre
    rw [ByteArray.size_append, ByteArray.size_append]
    have : (⟨#[46]⟩ : ByteArray).size = 1 := rfl
    omega

set_option maxHeartbeats 2000000 in
set_option maxRecDepth 100000 in
theorem rprint_any (v : Value) (l : List ByteArray) (w : World) (hA : Reads w v l) (hl : l.length ≤ 9223372036854775806) (hS : Hid (Sized l)) :
    Calls Try.prog 22 #[v] w fun e w' => e = .returned (printV l) ∧ w' = w := by
  have hp := path_any v l w hA hl hS
  obtain ⟨a, c, rfl, hc, hA⟩ := hA
  cases hok : pathOk l
  · rw [printV_bad hok]
    rw [hok] at hp
    clear hA
    go_enter Try.func22, Try.ntmps22
    go_wp2_with fail
    refine hp.mono ?_
    rintro e w1 ⟨rfl, rfl⟩
    clear hp
    go_wp2_with fail
    go_ret2
    exact ⟨rfl, rfl⟩
  · rw [printV_ok hok]
    rw [hok] at hp
    obtain ⟨h1, h2, h3⟩ := pathOk_len hok
    cases l with
    | nil => simp at h1
    | cons x r =>
      obtain ⟨b1, o1, rfl, hb1, hA⟩ := hA.resolve_left (by simp)
      rw [← pre_joined x r]
      have hx64 := seg_small (h3 x List.mem_cons_self)
      have hsz : Hid (∀ k, k ≤ r.length → (pre x r k).size ≤ 64 + k * 65) := pre_size x r hx64 (fun s hs => seg_small (h3 s (List.mem_cons_of_mem _ hs)))
      have hr64 : Hid (∀ s ∈ r, s.size ≤ 64) := fun s hs => seg_small (h3 s (List.mem_cons_of_mem _ hs))
      replace hA : Hid (∀ j s, (x :: r)[j]? = some s → w.cell? ⟨b1, o1 + j, none⟩ = some (.string s)) := hA
      have c0 : w.cell? ⟨b1, o1, none⟩ = some (.string x) := hA.out 0 x rfl
      clear hok h3
      simp only [List.length_cons] at *
      go_enter Try.func22, Try.ntmps22
      go_wp2_with fail
      refine hp.mono ?_
      rintro e w1 ⟨rfl, rfl⟩
      clear hp
      go_wp2_with fail
      go_loopw [4, 5] (fun s i wr => ∃ k : Nat, k ≤ r.length ∧ i = .int .i64 ((k + 1 : Nat) : Int) ∧ s = .string (pre x r k) ∧ wr = w1) (fun _ i _ => r.length + 1 - (intOf i).toNat)
      case atStart => exact ⟨0, Nat.zero_le _, rfl, rfl, rfl⟩
      case round =>
        obtain ⟨k, hk, rfl, rfl, rfl⟩ := hrel
        have hs1 := hsz.out k hk
        by_cases hlt : k < r.length
        · have hd : decide (((k : Int) + 1) < ((r.length : Int) + 1)) = true := by simp; omega
          have hk2 : r[k]? = some (r.getD k ⟨#[]⟩) := by
            rw [List.getD_eq_getElem?_getD, List.getElem?_eq_getElem (by omega)]; rfl
          have c1 : wr.cell? ⟨b1, o1 + (k + 1), none⟩ = some (.string (r.getD k ⟨#[]⟩)) := hA.out (k + 1) _ (by simpa using hk2)
          have hs2 := hr64.out _ (List.mem_of_getElem? hk2)
          have hstep : Hid (pre x r (k + 1) = pre x r k ++ ⟨#[46]⟩ ++ r.getD k ⟨#[]⟩) := rfl
          clear hk2
          generalize r.getD k ⟨#[]⟩ = y at *
          generalize pre x r k = p at *
          go_wp2_with fail
          go_roundw
          case rel => exact ⟨k + 1, by omega, by simp, by rw [hstep.out]; try simp, by simp⟩
          case measure => simp [intOf]; omega
        · have hd : decide (((k : Int) + 1) < ((r.length : Int) + 1)) = false := by simp; omega
          have hkr : k = r.length := by omega
          subst hkr
          go_wp2_with fail
          go_ret2
          exact ⟨rfl, rfl⟩
end Go.Proofs.Ytelmdbfddmpaaaa

import Derived.Test.YtgigikcopedoeaaGreatLA
import Derived.Deep.Upon
/-! Taken over from elder texts: r3b/A1.tpl, r3b/A2.tpl, r3b/A6.tpl, r3b/F1.tpl, r3b/F2.tpl, r3b/H1.tpl, r3b/H3.tpl. -/
namespace Go.Proofs.YtgigikcopedoeaaGreat.Tree
open Go Go.RowKit
set_option maxHeartbeats 1000000 in
theorem segment_any (s : ByteArray) (hs : s.size ≤ 9223372036854775806) (w : World) : Calls Tryz.prog 66 #[.string s] w fun e w' => e = .returned (.bool (seg s)) ∧ w' = w := by
  go_enter Tryz.func66, Tryz.ntmps66
  go_wp2
  go_loopw [3] (fun i wr => ∃ q : Nat, q ≤ s.size ∧ i = .int .i64 q ∧ wr = w ∧ Hid (∀ j, j < q → byteAt s j ≠ 46)) (fun i _ => s.size - (intOf i).toNat)
  case atStart => exact ⟨0, Nat.zero_le _, rfl, rfl, fun j h => by omega⟩
  case round =>
    obtain ⟨q, hq, rfl, rfl, hB⟩ := hrel
    by_cases hlt : q < s.size
    · have hd : decide ((q : Int) < (s.size : Int)) = true := by simp; omega
      have he := byteAt_eq hlt
      by_cases hb : byteAt s q = 46
      · have hb' : (((byteAt s q).toNat : Int) == 46) = true := by rw [hb]; rfl
        have hfin := seg_false_dot (noDot_false hlt hb)
        clear hb
        go_wp2
        go_ret
        exact ⟨ret_bool hfin.symm, rfl⟩
      · have hb' : (((byteAt s q).toNat : Int) == 46) = false := by
          have := u8_beq (byteAt s q) 46
          rw [show ((46 : UInt8).toNat : Int) = 46 from rfl] at this
          rw [this]; simpa using hb
        go_wp2
        go_roundw
        case rel => exact ⟨q + 1, by omega, by simp, by simp, fun j h => by
          by_cases e : j = q
          · subst e; exact hb
          · exact hB.out j (by omega)⟩
        case measure => simp [intOf]; omega
    · have hd : decide ((q : Int) < (s.size : Int)) = false := by simp; omega
      have hnd : noDot s = true := noDot_true (fun j h => hB.out j (by omega))
      clear hB
      by_cases h1 : 1 ≤ s.size
      · have e0 := byteAt_eq (show 0 < s.size by omega)
        have hc := u8_beq (byteAt s 0) 36
        rw [show ((36 : UInt8).toNat : Int) = 36 from rfl] at hc
        go_wp2
        all_goals (go_ret; exact ⟨ret_bool (by simp [seg, hnd, bne, ← hc]; try simp [*]; try omega), rfl⟩)
      · go_wp2
        all_goals (go_ret; exact ⟨ret_bool (by simp [seg, hnd]; try omega), rfl⟩)
set_option maxHeartbeats 1000000 in
theorem rindex_any (s : ByteArray) (hs : s.size ≤ 9223372036854775806) (w : World) : Calls Tryz.prog 104 #[.string s] w fun e w' => e = .returned (idxV s) ∧ w' = w := by
  have hout : ∀ x, idx s = x → idxV s = .tuple #[.int .i64 ((x.getD 0 : Nat) : Int), .bool x.isSome] := fun x h => by rw [idxV, h]
  by_cases h1 : s.size < 1 ∨ 9 < s.size
  · have hi := hout none (by unfold idx; rw [if_pos (by rcases h1 with h | h <;> simp [h])])
    rw [hi]; clear hi hout
    rcases h1 with h1 | h1
    · go_enter Tryz.func104, Tryz.ntmps104
      go_wp2
      go_ret2
      exact ⟨rfl, rfl⟩
    · go_enter Tryz.func104, Tryz.ntmps104
      go_wp2
      go_ret2
      exact ⟨rfl, rfl⟩
  have hlo : ¬ s.size < 1 := fun h => h1 (.inl h)
  have hhi : ¬ 9 < s.size := fun h => h1 (.inr h)
  clear h1
  have e0 := byteAt_eq (show 0 < s.size by omega)
  have hc := u8_beq (byteAt s 0) 48
  rw [show ((48 : UInt8).toNat : Int) = 48 from rfl] at hc
  by_cases h0 : 1 < s.size ∧ byteAt s 0 = 48
  · have hi := hout none (by unfold idx; rw [if_pos (.inr (.inr h0))])
    rw [hi]; clear hi hout
    obtain ⟨ha, hb⟩ := h0
    have hb' : (((byteAt s 0).toNat : Int) == 48) = true := by rw [hb]; rfl
    clear hb hc
    go_enter Tryz.func104, Tryz.ntmps104
    go_wp2
    go_ret2
    exact ⟨rfl, rfl⟩
  have hidx : idx s = if digTo s s.size = true then some (numTo s s.size) else none := by
    unfold idx; rw [if_neg (by exact fun h => h.elim hlo (fun h => h.elim hhi h0))]
  have hpass : ¬ 1 < s.size ∨ (1 < s.size ∧ (((byteAt s 0).toNat : Int) == 48) = false) := by
    by_cases h : 1 < s.size
    · right; refine ⟨h, ?_⟩; rw [hc]; simpa using fun e => h0 ⟨h, e⟩
    · exact .inl h
  clear h0 hc
  rcases hpass with hp | ⟨hp, hp2⟩
  all_goals
    go_enter Tryz.func104, Tryz.ntmps104
    go_wp2
    go_loopw [4, 5] (fun n i wr => ∃ q : Nat, q ≤ s.size ∧ i = .int .i64 q ∧ n = .int .i64 ((numTo s q : Nat) : Int) ∧ wr = w ∧ Hid (digTo s q = true)) (fun _ i _ => s.size - (intOf i).toNat)
    case atStart => exact ⟨0, Nat.zero_le _, rfl, rfl, rfl, rfl⟩
    case round =>
      obtain ⟨q, hq, rfl, rfl, rfl, hB⟩ := hrel
      have hsm := numTo_small hB.out (by omega)
      by_cases hlt : q < s.size
      · have hd : decide ((q : Int) < (s.size : Int)) = true := by simp; omega
        have he := byteAt_eq hlt
        have hdi := dig_int (byteAt s q)
        by_cases hb : isDig (byteAt s q) = true
        · have hnext : digTo s (q + 1) = true := by rw [digTo_succ, hB.out, hb]; rfl
          rw [hb] at hdi
          have h48 : ¬ ((byteAt s q).toNat : Int) < 48 := by simp at hdi; omega
          have h57 : ¬ (57 : Int) < ((byteAt s q).toNat : Int) := by simp at hdi; omega
          clear hdi hb
          go_wp2
          go_roundw
          case rel => exact ⟨q + 1, by omega, by simp, by simp [numTo]; omega, by simp, hnext⟩
          case measure => simp [intOf]; omega
        · have hb' : isDig (byteAt s q) = false := by simpa using hb
          have hi : Hid (idxV s = .tuple #[.int .i64 0, .bool false]) := hout none (by rw [hidx, digTo_false hb' hlt]; rfl)
          rw [hb'] at hdi
          clear hb hb' hout hidx
          by_cases h48 : ((byteAt s q).toNat : Int) < 48
          · clear hdi
            go_wp2
            go_ret2
            exact ⟨congrArg Ending.returned hi.out.symm, rfl⟩
          · have h57 : (57 : Int) < ((byteAt s q).toNat : Int) := by simp at hdi; omega
            clear hdi
            go_wp2
            go_ret2
            exact ⟨congrArg Ending.returned hi.out.symm, rfl⟩
      · have hd : decide ((q : Int) < (s.size : Int)) = false := by simp; omega
        have hqs : q = s.size := by omega
        subst hqs
        have hi : Hid (idxV s = .tuple #[.int .i64 ((numTo s s.size : Nat) : Int), .bool true]) := hout (some (numTo s s.size)) (by rw [hidx, hB.out]; rfl)
        clear hout hidx
        go_wp2
        go_ret2
        exact ⟨congrArg Ending.returned hi.out.symm, rfl⟩
set_option maxHeartbeats 2000000 in
set_option maxRecDepth 100000 in
theorem rparse_any (T : ByteArray) (hT : T.size ≤ 140737488355328) (w : World) : Calls Tryz.prog 42 #[.string T] w (Parsed w (parseR T 0 [])) := by
  obtain ⟨i9, hi9, hz90, hz91, hz92⟩ := info_parts A9
  go_enter Tryz.func42, Tryz.ntmps42
  go_wp2
  go_loopw [5, 6, 7] (fun p r m wr => ∃ (l : List ByteArray) (n k : Nat), wr.ownsRow w.heap.size 9 1 p l.length (strs l) ∧ l.length ≤ 16 ∧ Below w.heap.size w wr ∧ r = .int .i64 (n : Int) ∧ m = .int .i64 (k : Int) ∧
      ((n ≤ k ∧ k ≤ T.size ∧ Hid (∀ j, n ≤ j → j < k → byteAt T j ≠ 46) ∧ Hid (parseR T 0 [] = parseR T n l)) ∨ (n = T.size + 1 ∧ k = T.size + 1 ∧ Hid (parseR T 0 [] = (l, 0, 0))))) (fun _ _ m _ => T.size + 1 - (intOf m).toNat)
  case atStart => exact ⟨[], 0, 0, World.ownsRow_nil _ _ _ _, by simp, Below.refl _ _, rfl, rfl, .inl ⟨Nat.le_refl _, Nat.zero_le _, fun j h1 h2 => by omega, rfl⟩⟩
  case round =>
    obtain ⟨l, n, k, hown, hl, hbel, rfl, rfl, ⟨hnk, hk, hno, hP⟩ | ⟨rfl, rfl, hP⟩⟩ := hrel
    · obtain ⟨a5, c5, rfl⟩ := ownsRow_slice hown
      have hn : n ≤ T.size := by omega
      have hle : decide ((k : Int) ≤ (T.size : Int)) = true := by simp; omega
      have hgo : (k < T.size ∧ byteAt T k ≠ 46) ∨ (Hid (next T n = k) ∧ ((k < T.size ∧ byteAt T k = 46) ∨ k = T.size)) := by
        by_cases h1 : k < T.size
        · by_cases h2 : byteAt T k = 46
          · exact .inr ⟨next_eq hnk hk hno.out (.inr h2), .inl ⟨h1, h2⟩⟩
          · exact .inl ⟨h1, h2⟩
        · exact .inr ⟨next_eq hnk hk hno.out (.inl (by omega)), .inr (by omega)⟩
      rcases hgo with ⟨hlt, hdot⟩ | ⟨hnx, hgo⟩
      · have hd : decide ((k : Int) < (T.size : Int)) = true := by simp; omega
        have he := byteAt_eq hlt
        have hb' : (((byteAt T k).toNat : Int) == 46) = false := by
          have := u8_beq (byteAt T k) 46
          rw [show ((46 : UInt8).toNat : Int) = 46 from rfl] at this
          rw [this]; simpa using hdot
        go_wp2
        go_roundw
        case rel => exact ⟨l, n, k + 1, hown, hl, hbel, rfl, by simp, .inl ⟨by omega, by omega, fun j h1 h2 => by
          by_cases e : j = k
          · subst e; exact hdot
          · exact hno.out j h1 (by omega), hP⟩⟩
        case measure => simp [intOf]; omega
      · have hbad : Hid (l.length = 16 ∨ seg (T.extract n k) = false → parseR T n l = ([], 20, n)) := fun h => parseR_bad hn (by rw [hnx.out]; exact h)
        have hmore : Hid (¬ l.length = 16 → seg (T.extract n k) = true → k < T.size → parseR T n l = parseR T (k + 1) (l ++ [T.extract n k])) := fun h1 h2 h3 => by
          have := parseR_more hn h1 (by rw [hnx.out]; exact h2) (by rw [hnx.out]; exact h3)
          rw [hnx.out] at this; exact this
        have hend : Hid (¬ l.length = 16 → seg (T.extract n k) = true → ¬ k < T.size → parseR T n l = (l ++ [T.extract n k], 0, 0)) := fun h1 h2 h3 => by
          have := parseR_end hn h1 (by rw [hnx.out]; exact h2) (by rw [hnx.out]; exact h3)
          rw [hnx.out] at this; exact this
        have hszs : (T.extract n k).size ≤ 281474976710656 := by rw [ByteArray.size_extract]; omega
        clear hno hnx
        rcases hgo with ⟨hlt, hdot⟩ | rfl
        · have hd : decide ((k : Int) < (T.size : Int)) = true := by simp; omega
          have he := byteAt_eq hlt
          have hb' : (((byteAt T k).toNat : Int) == 46) = true := by rw [hdot]; rfl
          clear hdot
          generalize hsg : T.extract n k = sg at *
          by_cases h16 : l.length = 16
          · have hd16 : ((l.length : Int) == 16) = true := by simp; omega
            go_wp2_with fail
            go_ret3
            refine ⟨.slice none 0 0, ?_, ?_, ?_⟩
            · rw [hP.out, hbad.out (.inl h16)]; rfl
            · rw [hP.out, hbad.out (.inl h16)]; exact World.ownsRow_nil _ _ _ _
            · exact hbel
          · have hd16 : ((l.length : Int) == 16) = false := by simp; omega
            go_wp2_with fail
            refine (segment_any sg (by omega) _).mono ?_
            rintro e w2 ⟨rfl, rfl⟩
            cases hs : seg sg
            · go_wp2_with fail
              go_ret3
              refine ⟨.slice none 0 0, ?_, ?_, ?_⟩
              · rw [hP.out, hbad.out (.inr hs)]; rfl
              · rw [hP.out, hbad.out (.inr hs)]; exact World.ownsRow_nil _ _ _ _
              · exact hbel
            · go_wp2_with (at_builtin; refine wpList_append_lies _ rfl _ _ 22 rfl w.heap.size 9 i9 _ 1 16 Tryz.underlying22 hi9 hz90 hz91 hz92 rfl (by decide) _ l.length (strs l) rfl (hown.alloc _) _ 1 1 [.string sg] rfl rfl (World.news_of_block (heap_alloc_new w2 _)) (one_string sg) (by decide) (by unfold maxLen; omega) (by omega) (by have := hbel.size; simp only [World.size_alloc]; omega) _ rfl ?_; intro g cap w4 hown4 hgrow4 hat4 hlt4)
              have hbel4 : Below w.heap.size w w4 := (hbel.alloc (by have := hbel.size; omega) _).trans (grown_below hgrow4 (by have := hbel.size; simp; omega) (fun g hg => (ownsRow_ge hown hg).1))
              go_roundw
              case rel =>
                refine ⟨l ++ [sg], k + 1, k + 1, by simpa [strs_snoc] using hown4, by simp; omega, hbel4, by simp, by simp, ?_⟩
                exact .inl ⟨by omega, by omega, fun j h1 h2 => by omega, hP.out.trans (hmore.out h16 hs hlt)⟩
              case measure => simp [intOf]; omega
        · have hd : decide ((T.size : Int) < (T.size : Int)) = false := by simp
          generalize hsg : T.extract n T.size = sg at *
          by_cases h16 : l.length = 16
          · have hd16 : ((l.length : Int) == 16) = true := by simp; omega
            go_wp2_with fail
            go_ret3
            refine ⟨.slice none 0 0, ?_, ?_, ?_⟩
            · rw [hP.out, hbad.out (.inl h16)]; rfl
            · rw [hP.out, hbad.out (.inl h16)]; exact World.ownsRow_nil _ _ _ _
            · exact hbel
          · have hd16 : ((l.length : Int) == 16) = false := by simp; omega
            go_wp2_with fail
            refine (segment_any sg (by omega) _).mono ?_
            rintro e w2 ⟨rfl, rfl⟩
            cases hs : seg sg
            · go_wp2_with fail
              go_ret3
              refine ⟨.slice none 0 0, ?_, ?_, ?_⟩
              · rw [hP.out, hbad.out (.inr hs)]; rfl
              · rw [hP.out, hbad.out (.inr hs)]; exact World.ownsRow_nil _ _ _ _
              · exact hbel
            · go_wp2_with (at_builtin; refine wpList_append_lies _ rfl _ _ 22 rfl w.heap.size 9 i9 _ 1 16 Tryz.underlying22 hi9 hz90 hz91 hz92 rfl (by decide) _ l.length (strs l) rfl (hown.alloc _) _ 1 1 [.string sg] rfl rfl (World.news_of_block (heap_alloc_new w2 _)) (one_string sg) (by decide) (by unfold maxLen; omega) (by omega) (by have := hbel.size; simp only [World.size_alloc]; omega) _ rfl ?_; intro g cap w4 hown4 hgrow4 hat4 hlt4)
              have hbel4 : Below w.heap.size w w4 := (hbel.alloc (by have := hbel.size; omega) _).trans (grown_below hgrow4 (by have := hbel.size; simp; omega) (fun g hg => (ownsRow_ge hown hg).1))
              go_roundw
              case rel =>
                refine ⟨l ++ [sg], T.size + 1, T.size + 1, by simpa [strs_snoc] using hown4, by simp; omega, hbel4, by simp, by simp, ?_⟩
                exact .inr ⟨rfl, rfl, hP.out.trans (hend.out h16 hs (by omega))⟩
              case measure => simp [intOf]
    · obtain ⟨a5, c5, rfl⟩ := ownsRow_slice hown
      have hle : decide (((T.size + 1 : Nat) : Int) ≤ (T.size : Int)) = false := by simp; omega
      go_wp2_with fail
      go_ret3
      rw [hP.out]
      exact ⟨_, rfl, hown, hbel⟩
set_option maxHeartbeats 1000000 in
set_option maxRecDepth 100000 in
theorem rmem_any (k x : Int) (s : ByteArray) (an : Option Addr) (ln cn : Nat) (ai : Option Addr) (li ci : Nat) (w : World) : Calls Tryz.prog 41 #[.agg #[.int .i64 k, .int .i64 x, .string s, .slice an ln cn, .slice ai li ci]] w fun e w' => e = .returned (.int .i64 (min ln li : Nat)) ∧ Below w.heap.size w w' := by
  by_cases h : ln < li
  · have hd : decide ((ln : Int) < (li : Int)) = true := by simp; omega
    rw [Nat.min_eq_left (by omega)]
    go_enter Tryz.func41, Tryz.ntmps41
    go_wp2_with fail
    go_ret
    exact ⟨rfl, (Below.refl _ w).alloc (Nat.le_refl _) _⟩
  · have hd : decide ((ln : Int) < (li : Int)) = false := by simp; omega
    rw [Nat.min_eq_right (by omega)]
    go_enter Tryz.func41, Tryz.ntmps41
    go_wp2_with fail
    go_ret
    exact ⟨rfl, (Below.refl _ w).alloc (Nat.le_refl _) _⟩
def rplace (k : Int) (ns : List ByteArray) (m : Nat) (s : ByteArray) : Int := if placeB k ns m s = true then placeI k ns s else -1
theorem getD_some {l : List ByteArray} {q : Nat} {x : ByteArray} (h : l[q]? = some x) : l.getD q ByteArray.empty = x := by rw [List.getD_eq_getElem?_getD, h]; rfl
theorem rplace_hit {ns : List ByteArray} {m q : Nat} {s : ByteArray} (h : ns[q]? = some s) (hne : ∀ j, j < q → ns[j]? ≠ some s) (hm : q < m) : rplace 6 ns m s = q := by
  have hq := (List.getElem?_eq_some_iff.1 h).1
  have := Lib.idxFromS_hit s ns q 0 hq (getD_some h) (fun j hj e => hne j hj (by rw [List.getElem?_eq_getElem (by omega)]; rw [List.getD_eq_getElem?_getD, List.getElem?_eq_getElem (by omega)] at e; simpa using e))
  have e : Lib.idxOfS ns s = q := by unfold Lib.idxOfS; rw [this]; simp
  unfold rplace placeB placeI
  simp only [e, if_true]
  rw [if_pos (by simp; omega)]
theorem rplace_miss {ns : List ByteArray} {m : Nat} {s : ByteArray} (hne : ∀ j, j < min ns.length m → ns[j]? ≠ some s) : rplace 6 ns m s = -1 := by
  unfold rplace placeB
  rw [if_neg]
  simp only [if_true]
  intro h
  simp at h
  obtain ⟨h1, h2⟩ := h
  have hmem := (Lib.idxOfS_nonneg_iff ns s).1 h1
  -- the first place
  obtain ⟨q, hq, hf⟩ : ∃ q, ns[q]? = some s ∧ ∀ j, j < q → ns[j]? ≠ some s := by
    obtain ⟨i, hi⟩ := List.mem_iff_getElem?.1 hmem
    induction i using Nat.strongRecOn with
    | _ i ih =>
      by_cases he : ∃ j, j < i ∧ ns[j]? = some s
      · obtain ⟨j, hj, hjs⟩ := he; exact ih j hj hjs
      · exact ⟨i, hi, fun j hj e => he ⟨j, hj, e⟩⟩
  have hql := (List.getElem?_eq_some_iff.1 hq).1
  have e := Lib.idxFromS_hit s ns q 0 hql (getD_some hq) (fun j hj e => hf j hj (by rw [List.getElem?_eq_getElem (by omega)]; rw [List.getD_eq_getElem?_getD, List.getElem?_eq_getElem (by omega)] at e; simpa using e))
  have e' : Lib.idxOfS ns s = q := by unfold Lib.idxOfS; rw [e]; simp
  rw [e'] at h2
  exact hne q (by omega) hq
set_option maxHeartbeats 4000000 in
set_option maxRecDepth 100000 in
theorem rplace_any (k x : Int) (tx : ByteArray) (an : Option Addr) (cn : Nat) (ns : List ByteArray) (a : Option Addr) (m c : Nat) (s : ByteArray) (w : World) (hN : Hid (Reads w (.slice an ns.length cn) ns)) (hm : m ≤ 9223372036854775807) (hs : s.size ≤ 9223372036854775806) :
    Calls Tryz.prog 105 #[.agg #[.int .i64 k, .int .i64 x, .string tx, .slice an ns.length cn, .slice a m c], .string s] w fun e w' => e = .returned (.int .i64 (rplace k ns m s)) ∧ Below w.heap.size w w' := by
  by_cases h6 : k = 6
  · subst h6
    obtain ⟨mm, hmm⟩ : ∃ z, Hid (min ns.length m = z) := ⟨_, rfl⟩
    have hmb : mm ≤ 9223372036854775807 := by have := hmm.out; omega
    have hmem := fun W => hid_f (rmem_any 6 x tx an ns.length cn a m c W)
    rw [hmm.out] at hmem
    go_enter Tryz.func105, Tryz.ntmps105
    go_wp2_with fail
    go_loopw [5] (fun i wr => ∃ q : Nat, q ≤ mm ∧ i = .int .i64 q ∧ Below w.heap.size w wr ∧ wr.heap[w.heap.size]? = some (.cells #[.int .i64 6, .int .i64 x, .string tx, .slice an ns.length cn, .slice a m c] 25 (0, 0)) ∧ Hid (∀ j, j < q → ns[j]? ≠ some s)) (fun i _ => mm - (intOf i).toNat)
    case atStart => exact ⟨0, Nat.zero_le _, rfl, (Below.refl _ w).alloc (Nat.le_refl _) _, heap_alloc_new w _, fun j h => by omega⟩
    case round =>
      obtain ⟨q, hq, rfl, hbel, hb0, hne⟩ := hrel
      obtain ⟨y0, y1, y2, y3, y4, -⟩ := row_cells hb0
      go_wp2_with fail
      clear y0 y1 y2 y3 y4
      go_fit (hmem _).out
      rintro e w1 ⟨rfl, hb⟩
      have hbel1 : Below w.heap.size w w1 := hbel.trans (hb.mono hbel.size)
      replace hb0 := (hb.block _ (Array.getElem?_eq_some_iff.1 hb0).1).trans hb0
      clear hb hbel
      obtain ⟨y0, y1, y2, y3, y4, -⟩ := row_cells hb0
      by_cases hlt : q < mm
      · have hd : decide ((q : Int) < (mm : Int)) = true := by simp; omega
        have hqn : q < ns.length := by have := hmm.out; omega
        have hqm : q < m := by have := hmm.out; omega
        obtain ⟨n, hn⟩ : ∃ n, Hid (ns[q]? = some n) := ⟨_, List.getElem?_eq_getElem hqn⟩
        obtain ⟨_, _, e, _, hR⟩ := hN.out
        cases e
        obtain ⟨gn, on, rfl, _, hR⟩ := hR.resolve_left (by intro e; subst e; simp at hqn)
        have c1 := stay hbel1 (hR q n hn.out)
        clear hR
        have i1 : (q : Int) < (ns.length : Int) := by omega
        have i2 : (0 : Int) ≤ (q : Int) := by omega
        by_cases he : n = s
        · subst he
          have hout := hid_f (rplace_hit hn.out hne.out hqm)
          have hb' : (n.toList == n.toList) = true := by simp
          go_wp2_with fail
          go_ret
          exact ⟨ret_int hout.out.symm, hbel1⟩
        · have hb' : (n.toList == s.toList) = false := by rw [toList_beq]; simpa using he
          go_wp2_with fail
          go_roundw
          case rel => exact ⟨q + 1, by omega, by simp, hbel1, hb0, fun j h e => by
            by_cases ej : j = q
            · subst ej; rw [hn.out] at e; exact he (by simpa using e)
            · exact hne.out j (by omega) e⟩
          case measure => simp [intOf]; omega
      · have hd : decide ((q : Int) < (mm : Int)) = false := by simp; omega
        have hout := hid_f (rplace_miss (m := m) (s := s) (fun j hj => hne.out j (by have := hmm.out; omega)))
        clear hmem
        go_wp2_with (go_at_call 104; refine (rindex_any s hs _).mono ?_; rintro e w' ⟨rfl, rfl⟩; unfold idxV)
        go_ret
        exact ⟨ret_int hout.out.symm, hbel1⟩
  · have e6 : (k == 6) = false := by simpa using h6
    have hB := (Below.refl _ w).alloc (Nat.le_refl _) (.cells #[.int .i64 k, .int .i64 x, .string tx, .slice an ns.length cn, .slice a m c] 25)
    have hri := fun W => hid_f (rindex_any s hs W)
    unfold idxV at hri
    by_cases h5 : k = 5
    · subst h5
      cases hix : idx s with
      | none =>
        rw [hix] at hri
        have hout : Hid (rplace 5 ns m s = -1) := by unfold rplace placeB; simp [hix, Hid]
        clear hix
        go_enter Tryz.func105, Tryz.ntmps105
        go_wp2_with fail
        refine (hri _).out.mono ?_
        rintro e w1 ⟨rfl, rfl⟩
        go_wp2_with fail
        go_ret
        exact ⟨ret_int hout.out.symm, hB⟩
      | some z =>
        rw [hix] at hri
        by_cases hz : z < m
        · have hd : decide ((z : Int) < (m : Int)) = true := by simp; omega
          have hout : Hid (rplace 5 ns m s = z) := by unfold rplace placeB placeI; simp [hix, Hid, hz]
          clear hix
          go_enter Tryz.func105, Tryz.ntmps105
          go_wp2_with fail
          refine (hri _).out.mono ?_
          rintro e w1 ⟨rfl, rfl⟩
          go_wp2_with fail
          go_ret
          exact ⟨ret_int hout.out.symm, hB⟩
        · have hd : decide ((z : Int) < (m : Int)) = false := by simp; omega
          have hout : Hid (rplace 5 ns m s = -1) := by unfold rplace placeB; simp [hix, Hid]; omega
          clear hix
          go_enter Tryz.func105, Tryz.ntmps105
          go_wp2_with fail
          refine (hri _).out.mono ?_
          rintro e w1 ⟨rfl, rfl⟩
          go_wp2_with fail
          go_ret
          exact ⟨ret_int hout.out.symm, hB⟩
    · have e5 : (k == 5) = false := by simpa using h5
      have hout : Hid (rplace k ns m s = -1) := by unfold rplace placeB; simp [h6, h5, Hid]
      go_enter Tryz.func105, Tryz.ntmps105
      go_wp2_with fail
      refine (hri _).out.mono ?_
      rintro e w1 ⟨rfl, rfl⟩
      go_wp2_with fail
      go_ret
      exact ⟨ret_int hout.out.symm, hB⟩
theorem below_two (w : World) (o p : Obj) : Below w.heap.size w ((w.alloc o).alloc p) := ((Below.refl _ w).alloc (Nat.le_refl _) o).alloc (by simp) p
theorem ItemsRep.app {W : World} : {ts us : List Tr} → {xs ys : List Value} → ItemsRep W ts xs → ItemsRep W us ys → ItemsRep W (ts ++ us) (xs ++ ys)
  | [], us, xs, ys, h, h' => by unfold ItemsRep at h; subst h; simpa using h'
  | t :: ts, us, xs, ys, h, h' => by
    unfold ItemsRep at h
    obtain ⟨c1, r, rfl, h1, h2, h3⟩ := h
    show ItemsRep W (t :: (ts ++ us)) _
    unfold ItemsRep
    exact ⟨c1, r ++ ys, by simp, h1, h2, ItemsRep.app h3 h'⟩
theorem items_one {W : World} : {ts : List Tr} → {ys : List Value} → ItemsRep W ts ys → ∀ u ∈ ys, u.oneCell' = true
  | [], ys, h => by unfold ItemsRep at h; subst h; intro u hu; cases hu
  | t :: ts, ys, h => by
    unfold ItemsRep at h
    obtain ⟨cs, r, rfl, h1, h2, h3⟩ := h
    intro u hu
    rcases List.mem_append.1 hu with hu | hu
    · obtain ⟨k, x, s, an, ln, cn, ai, li, ci, rfl⟩ := vrep_five h2
      exact five_one k x s an ln cn ai li ci u hu
    · exact items_one h3 u hu
/-- A row of one's own appended to another. -/
theorem wpList_append_row {w : World} {ops : Array Oper} {rest : List Oper} {o : Oper} {a : Act} {Q : Exit → Act → World → Prop} (hgd : o.guard = none) (s x : Operand)
    (ho : o.op = .call { callee := .builtin .append, args := #[s, x], argTypes := #[23, 23] }) (lo : Nat) (v : Value) (n : Nat) (xs : List Value) (hs : a.eval s = v) (hown : w.ownsRow lo 25 5 v n xs)
    (lo2 : Nat) (vx : Value) (m : Nat) (ys : List Value) (hx : a.eval x = vx) (hrow : w.ownsRow lo2 25 5 vx m ys) (h1 : ∀ u ∈ ys, u.oneCell' = true) (hby : (n + m) * 80 ≤ 140737488355328) (hlo : lo ≤ w.heap.size)
    (h : ∀ v' w', w'.ownsRow lo 25 5 v' (n + m) (xs ++ ys) → Below lo w w' → wpList Tryz.prog ops Q rest (a.put o.dst v') w') : wpList Tryz.prog ops Q (o :: rest) a w := by
  obtain ⟨i5, hi5, hz0, hz1, hz2⟩ := info_parts F25
  obtain ⟨av, cv, rfl⟩ := ownsRow_slice hown
  obtain ⟨ax, cx, rfl⟩ := ownsRow_slice hrow
  by_cases hm : m = 0
  · subst hm
    have hys : ys = [] := List.eq_nil_of_length_eq_zero (by have := hrow.1; simpa using this)
    subst hys
    have hle : n ≤ cv := by
      rcases hown.2 with ⟨hv, h0⟩ | ⟨g, cap, cur, hv, hg, hh, hc, r⟩
      · cases hv; omega
      · cases hv; exact hc
    have hsrc : Src Tryz.prog i5.size 23 (.slice ax 0 cx) 0 [] w := by
      cases ax with
      | none => exact Src.ofNil w Tryz.underlying23 cx
      | some ad => exact Src.ofSlice w Tryz.underlying23 ad 0 cx [] (by simp) (fun j u h => by simp at h) (fun u h => by cases h)
    refine wpList_plain hgd fun K hK => ?_
    have hr := run_append_nothing (P := Tryz.prog) w 23 23 o.type 25 i5 Tryz.underlying23 hi5 av n cv hle _ hsrc
    unfold Oper.wp execOp
    simp only [ho, resolve, invoke, builtin, Sem.run_bind, Sem.run_pure, Result.andThen_ok, List.map_toArray, List.map_cons, List.map_nil, hs, hx, hr]
    exact hK _ _ (h _ w (by simpa using hown) (Below.refl _ _))
  · rcases hrow.2 with ⟨_, h0⟩ | ⟨g, cap, cur, hv, hg, hh, hc, hmx, hss, hr⟩
    · omega
    · cases hv
      refine wpList_append_lies w hgd s x 23 ho lo 25 i5 _ 5 80 Tryz.underlying23 hi5 hz0 hz1 hz2 rfl (by decide) _ n xs hs hown _ m cx ys hx hrow.1 (fun j u hu => ?_) h1 (by omega) (by unfold maxLen; omega) hby hlo _ rfl ?_
      · rw [add_off, Nat.zero_add]
        exact row_cell hrow j u hu
      · intro g' cap' w' h2 h3 _ _
        exact h _ w' h2 (grown_below h3 hlo (fun k hk => (ownsRow_ge hown hk).1))
theorem row_one (w : World) (k x : Int) (s : ByteArray) (an : Option Addr) (ln cn : Nat) (ai : Option Addr) (li ci : Nat) (lo : Nat) (h : lo ≤ w.heap.size) : (w.alloc (.cells #[.int .i64 k, .int .i64 x, .string s, .slice an ln cn, .slice ai li ci] 25)).ownsRow lo 25 5 (.slice (some ⟨w.heap.size, 0, none⟩) 1 1) 1 (five k x s (.slice an ln cn) (.slice ai li ci)) :=
  ⟨rfl, .inr ⟨w.heap.size, 1, #[.int .i64 k, .int .i64 x, .string s, .slice an ln cn, .slice ai li ci], rfl, h, heap_alloc_new w _, Nat.le_refl _, by unfold maxLen; omega, rfl, rfl⟩⟩
def RAllOk (n : Nat) : Prop := ∀ (W0 : World) (t : Tr) (cs : List Value) (pv : Value) (l : List ByteArray) (w : World),
  SizeOf.sizeOf t ≤ n → Below W0.heap.size W0 w → VRep W0 t cs → Reads W0 pv l → (∀ s ∈ l, s.size ≤ 9223372036854775806) → l.length ≤ 9223372036854775806 → partsT t ≤ 1000000 →
  Calls Tryz.prog 68 #[.agg cs.toArray, pv] w (GPost W0 w.heap.size w 0 [] (allF n t l))
set_option maxHeartbeats 1000000 in
set_option maxRecDepth 100000 in
theorem rall_nil (W0 : World) (k x : Int) (tx : ByteArray) (an : Option Addr) (ln cn : Nat) (ai : Option Addr) (li ci : Nat) (t : Tr) (a : Option Addr) (c : Nat) (w : World) (hV : Hid (VRep W0 t (five k x tx (.slice an ln cn) (.slice ai li ci)))) :
    Calls Tryz.prog 68 #[.agg #[.int .i64 k, .int .i64 x, .string tx, .slice an ln cn, .slice ai li ci], .slice a 0 c] w (GPost W0 w.heap.size w 0 [] [t]) := by
  have hrow := row_one (w.alloc (.cells #[.int .i64 k, .int .i64 x, .string tx, .slice an ln cn, .slice ai li ci] 25)) k x tx an ln cn ai li ci w.heap.size (by simp)
  rw [World.size_alloc] at hrow
  go_enter Tryz.func68, Tryz.ntmps68
  go_wp2_with fail
  go_ret
  exact ⟨_, _, rfl, hrow, by
    show ItemsRep W0 [t] _
    unfold ItemsRep
    exact ⟨_, [], by simp [five], rfl, hV.out, by unfold ItemsRep; rfl⟩, below_two w _ _⟩
theorem reads_tail {W : World} {b o c : Nat} {sg : ByteArray} {r : List ByteArray} (hbb : b < W.heap.size) (hA : ∀ j s, (sg :: r)[j]? = some s → W.cell? ⟨b, o + j, none⟩ = some (.string s)) (hc : r.length + 1 ≤ c ∧ c ≤ 9223372036854775807) : Reads W (.slice (some ⟨b, if c = 1 then o else o + 1, none⟩) r.length (c - 1)) r := by
  refine ⟨_, c - 1, rfl, ⟨by omega, by omega⟩, ?_⟩
  by_cases hc1 : c = 1
  · exact .inl (List.eq_nil_of_length_eq_zero (by omega))
  · refine .inr ⟨b, o + 1, by rw [if_neg hc1], hbb, fun j s hj => ?_⟩
    have := hA (j + 1) s (by simpa using hj)
    rwa [show o + (j + 1) = o + 1 + j by omega] at this
set_option maxHeartbeats 1600000 in
set_option maxRecDepth 100000 in
theorem rall_step (n : Nat) (IH : Hid (RAllOk n)) (W0 : World) (k x : Int) (tx : ByteArray) (an : Option Addr) (cn : Nat) (ns : List ByteArray) (ai : Option Addr) (ci : Nat) (its : List Tr) (b o c : Nat) (sg : ByteArray) (r : List ByteArray) (w : World)
    (hsz : Hid (∀ u ∈ its, SizeOf.sizeOf u ≤ n)) (hW : Below W0.heap.size W0 w) (hN : Hid (Reads W0 (.slice an ns.length cn) ns)) (hil : its.length ≤ 1000000) (hL : Hid (its = [] ∨ ∃ g q, ai = some ⟨g, q, none⟩ ∧ g < W0.heap.size ∧ VRepL W0 g q its))
    (hbb : b < W0.heap.size) (hA : Hid (∀ j s, (sg :: r)[j]? = some s → W0.cell? ⟨b, o + j, none⟩ = some (.string s))) (hc : r.length + 1 ≤ c ∧ c ≤ 9223372036854775807) (hll : r.length + 1 ≤ 9223372036854775806) (hS : Hid (∀ s ∈ sg :: r, s.size ≤ 9223372036854775806)) (hb : Hid (partsL its ≤ 1000000)) :
    Calls Tryz.prog 68 #[.agg #[.int .i64 k, .int .i64 x, .string tx, .slice an ns.length cn, .slice ai its.length ci], .slice (some ⟨b, o, none⟩) (r.length + 1) c] w (GPost W0 w.heap.size w 0 [] (allF (n + 1) (.node k x tx ns its) (sg :: r))) := by
  have hsg : sg.size ≤ 9223372036854775806 := hS.out sg (by simp)
  have hp : W0.cell? ⟨b, o, none⟩ = some (.string sg) := by simpa using hA.out 0 sg rfl
  obtain ⟨z, hz⟩ : ∃ z, Hid (rplace k ns its.length sg = z) := ⟨_, rfl⟩
  obtain ⟨G, hG⟩ : ∃ G, Hid (allF (n + 1) (.node k x tx ns its) (sg :: r) = G) := ⟨_, rfl⟩
  rw [hG.out]
  have hpl := fun W (hB : Below W0.heap.size W0 W) => hid_f (rplace_any k x tx an cn ns ai its.length ci sg W (hid_f (hN.out.keep hB)) (by omega) hsg)
  rw [hz.out] at hpl
  have hri := hid_f (fun W => rindex_any sg hsg W)
  unfold idxV at hri
  obtain ⟨is, his⟩ : ∃ z, Hid ((idx sg).isSome = z) := ⟨_, rfl⟩
  rw [his.out] at hri
  generalize (((idx sg).getD 0 : Nat) : Int) = iz at hri
  have i0 : (0 : Int) < ((r.length + 1 : Nat) : Int) := by omega
  have i00 : (0 : Int) < (r.length : Int) + 1 := by omega
  have c00 := cell_alloc' (stay hW hp) (.cells #[.int .i64 k, .int .i64 x, .string tx, .slice an ns.length cn, .slice ai its.length ci] 25)
  go_enter Tryz.func68, Tryz.ntmps68
  go_wp2_with fail
  refine (hri.out _).mono ?_
  rintro e w1 ⟨rfl, rfl⟩
  clear c00 hri
  go_wp2_with fail
  have HB : Below w.heap.size w (w.alloc (.cells #[.int .i64 k, .int .i64 x, .string tx, .slice an ns.length cn, .slice ai its.length ci] 25)) := (Below.refl _ w).alloc (Nat.le_refl _) _
  have h0 := heap_alloc_new w (.cells #[.int .i64 k, .int .i64 x, .string tx, .slice an ns.length cn, .slice ai its.length ci] 25)
  generalize w.alloc (.cells #[.int .i64 k, .int .i64 x, .string tx, .slice an ns.length cn, .slice ai its.length ci] 25) = X at HB h0
  obtain ⟨y0, y1, y2, y3, y4, -⟩ := row_cells h0
  have HX : Below W0.heap.size W0 X := hW.trans (HB.mono hW.size)
  have c0 := stay HX hp
  refine wp_region_quiet (C := fun w' => Below X.heap.size X w') (by kernel_rfl) (by kernel_rfl) (below_drewN (Below.refl _ _) 1) ?_
  refine wpQuiet_step (fun K hK => ?_)
  refine ⟨.agg #[.int .i64 k, .int .i64 x, .string tx, .slice an ns.length cn, .slice ai its.length ci], fun w' hw' => ?_, hK _ ?_⟩
  · have t0 := stay hw' y0
    have t1 := stay hw' y1
    have t2 := stay hw' y2
    have t3 := stay hw' y3
    have t4 := stay hw' y4
    go_simp
  clear hK K
  refine wpQuiet_step (fun K hK => ?_)
  go_simp
  refine ⟨_, fun _ _ => rfl, hK _ ?_⟩
  clear hK K
  refine wpQuiet_step (fun K hK => ?_)
  go_simp
  refine ⟨_, fun _ _ => rfl, hK _ ?_⟩
  clear hK K
  refine wpQuiet_step (fun K hK => ?_)
  refine ⟨.string sg, fun w' hw' => ?_, hK _ ?_⟩
  · have t0 := stay hw' c0
    go_simp
  clear hK K
  refine wpQuiet_step (fun K hK => ?_)
  refine ⟨.int .i64 z, fun w' hw' => ?_, hK _ ?_⟩
  · go_simp
    refine ((hpl w' (HX.trans (hw'.mono HX.size))).out).mono ?_
    rintro e w'' ⟨rfl, hb⟩
    exact ⟨rfl, hw'.trans (hb.mono hw'.size)⟩
  clear hK K
  refine wpQuiet_step (fun K hK => ?_)
  go_simp
  refine ⟨_, fun _ _ => rfl, hK _ ?_⟩
  clear hK K
  refine wpQuiet_nil ?_
  intro Y hY
  have HB' : Below w.heap.size w Y := HB.trans (hY.mono HB.size)
  have HY : Below W0.heap.size W0 Y := HX.trans (hY.mono HX.size)
  have h0' := (hY.block _ (Array.getElem?_eq_some_iff.1 h0).1).trans h0
  clear hY HB HX h0 y0 y1 y2 y3 y4 c0 hpl i0 i00
  cases hb9 : placeB k ns its.length sg
  · obtain rfl : z = -1 := by rw [← hz.out]; unfold rplace; rw [hb9]; rfl
    replace hG := hid_f (hG.out.symm.trans (allF_none (t := .node k x tx ns its) hb9))
    clear hb9 hz
    go_wp2_with fail
    go_loopw [8, 9] (fun f i wr => ∃ (q : Nat) (ys : List Value) (m : Nat) (done : List Tr), q ≤ its.length ∧ i = .int .i64 q ∧ Below w.heap.size w wr ∧ wr.heap[w.heap.size]? = some (.cells #[.int .i64 k, .int .i64 x, .string tx, .slice an ns.length cn, .slice ai its.length ci] 25 (0, 0)) ∧ Hid (wr.ownsRow (w.heap.size + 1) 25 5 f m ys) ∧ Hid (ItemsRep W0 done ys) ∧ Hid (m = done.length) ∧ Hid (done = if spreadB k sg = true then eachF n (its.take q) (sg :: r) else [])) (fun _ i _ => its.length - (intOf i).toNat)
    case atStart => exact ⟨0, [], 0, [], Nat.zero_le _, rfl, HB', h0', World.ownsRow_nil _ _ _ _, by unfold ItemsRep Hid; rfl, rfl, by simp [eachF, Hid]⟩
    case round =>
      clear HB' h0' HY
      obtain ⟨q, ys, m, done, hq, rfl, HB, h0, hown, hIt, hm, hdn⟩ := hrel
      obtain ⟨a0, c0, rfl⟩ := ownsRow_slice hown.out
      have HW : Below W0.heap.size W0 wr := hW.trans (HB.mono hW.size)
      have hsz9 : w.heap.size < wr.heap.size := (Array.getElem?_eq_some_iff.1 h0).1
      obtain ⟨y0, -, -, -, y4, -⟩ := row_cells h0
      by_cases hsp : k = 5 ∧ is = false
      · obtain ⟨rfl, rfl⟩ := hsp
        have hspB : Hid (spreadB 5 sg = true) := by unfold spreadB; rw [his.out]; rfl
        replace hdn := hid_f (hdn.out.trans (if_pos hspB.out))
        replace hG := hid_f (hG.out.trans (if_pos hspB.out))
        by_cases hlt : q < its.length
        · have hd : decide ((q : Int) < (its.length : Int)) = true := by simp; omega
          obtain ⟨u, hu⟩ : ∃ u, Hid (its[q]? = some u) := ⟨_, List.getElem?_eq_getElem hlt⟩
          obtain ⟨g, o2, rfl, hbl, hV⟩ := hL.out.resolve_left (by intro e; subst e; simp at hlt)
          obtain ⟨cs, hC, hr⟩ := VRepL.at its o2 q u hV hu.out
          obtain ⟨k2, x2, s2, an2, ln2, cn2, ai2, li2, ci2, rfl⟩ := vrep_five hr
          have g0 := stay HW (hC 0 _ rfl); have g1 := stay HW (hC 1 _ rfl); have g2 := stay HW (hC 2 _ rfl); have g3 := stay HW (hC 3 _ rfl); have g4 := stay HW (hC 4 _ rfl)
          simp only [Nat.add_zero] at g0
          have hkd := hid_f (vrep_kind2 hr)
          have hst := hid_f (each_step (n := n) (l := sg :: r) hu.out)
          have hpu := hid_f (partsL_mem hu.out)
          have hcnt : Hid (m + (allF n u (sg :: r)).length ≤ 1000000) := by
            have h1 := each_len (allF_len n (sg :: r)) (its.take q)
            have h2 := partsL_step hu.out
            have h3 := partsL_take its (q + 1)
            have h4 := hb.out
            have h5 := allF_len n (sg :: r) u
            have h6 := hm.out
            rw [hdn.out] at h6
            exact hid_f (by omega)
          have i1 : (q : Int) < (its.length : Int) := by omega
          have i2 : (0 : Int) ≤ (q : Int) := by omega
          by_cases h6 : k2 = 6
          · subst h6
            have hcall := hid_f (IH.out W0 u _ (.slice (some ⟨b, o, none⟩) (r.length + 1) c) (sg :: r) wr (hsz.out u (List.mem_of_getElem? hu.out)) HW hr ⟨_, c, rfl, hc, .inr ⟨b, o, rfl, hbb, hA.out⟩⟩ hS.out (by simp only [List.length_cons]; omega) (by have h1 := hpu.out; have h2 := hb.out; omega))
            replace hst := hid_f (hst.out.trans (by rw [if_pos hkd.out]))
            clear hV hC hr
            go_wp2_with fail
            clear g0 g1 g2 g3 g4
            go_fit hcall.out
            rintro e w1 ⟨fv1, xs1, rfl, e1, e2, e3⟩
            simp only [Nat.zero_add, List.nil_append] at e1 e2
            have HB1 : Below w.heap.size w w1 := HB.trans (e3.mono HB.size)
            have h01 := (e3.block _ hsz9).trans h0
            have hown1 := ownsRow_below hown.out e3
            have hbyt : (m + (allF n u (sg :: r)).length) * 80 ≤ 140737488355328 := by have := hcnt.out; omega
            have hs1 : w.heap.size + 1 ≤ w1.heap.size := by have := e3.size; omega
            have hone := items_one e2
            replace e1 := hid_f e1
            replace e2 := hid_f e2
            replace hown1 := hid_f hown1
            replace hone := hid_f hone
            clear hcall e3 HB h0 y0 y4
            go_wp2_with (at_builtin; refine wpList_append_row rfl _ _ rfl (w.heap.size + 1) _ m ys rfl hown1.out wr.heap.size _ _ xs1 rfl e1.out hone.out hbyt hs1 ?_; intro v2 w2 f1 f2)
            have HB2 : Below w.heap.size w w2 := HB1.trans (f2.mono (by omega))
            have h02 := (f2.block _ (by omega)).trans h01
            go_roundw
            case rel => exact ⟨q + 1, _, _, done ++ allF n u (sg :: r), by omega, by simp, HB2, h02, f1, ItemsRep.app hIt.out e2.out, hid_f (by have := hm.out; rw [List.length_append]; omega), hid_f (by rw [if_pos hspB.out, hst.out, hdn.out])⟩
            case measure => simp [intOf]; omega
          · have e6 : (k2 == 6) = false := by simpa using h6
            replace hst := hid_f (hst.out.trans (by rw [if_neg (by rw [hkd.out]; exact h6), List.append_nil]))
            clear hV hC hr
            go_wp2_with fail
            go_roundw
            case rel => exact ⟨q + 1, ys, m, done, by omega, by simp, HB, h0, hown, hIt, hm, hid_f (by rw [if_pos hspB.out, hst.out, hdn.out])⟩
            case measure => simp [intOf]; omega
        · have hd : decide ((q : Int) < (its.length : Int)) = false := by simp; omega
          obtain rfl : done = G := by rw [hG.out, hdn.out, List.take_of_length_le (by omega)]; rfl
          clear hG hdn
          go_wp2_with fail
          go_ret
          exact ⟨_, ys, rfl, by rw [Nat.zero_add, ← hm.out]; exact ownsRow_lo hown.out (by omega), by simpa using hIt.out, HB⟩
      · have hspB : Hid (spreadB k sg = false) := by
          unfold spreadB Hid
          rw [his.out]
          cases hk : decide (k = 5)
          · rfl
          · cases is
            · exact absurd ⟨by simpa using hk, rfl⟩ hsp
            · rfl
        obtain rfl : done = G := by rw [hG.out, hdn.out]; show (if spreadB k sg = true then _ else _) = (if spreadB k sg = true then _ else _); rw [hspB.out]; rfl
        clear hG hdn
        by_cases h5 : k = 5
        · subst h5
          cases is
          · exact absurd ⟨rfl, rfl⟩ hsp
          clear hsp
          go_wp2_with fail
          go_ret
          exact ⟨_, ys, rfl, by rw [Nat.zero_add, ← hm.out]; exact ownsRow_lo hown.out (by omega), by simpa using hIt.out, HB⟩
        · have e5 : (k == 5) = false := by simpa using h5
          clear hsp
          go_wp2_with fail
          go_ret
          exact ⟨_, ys, rfl, by rw [Nat.zero_add, ← hm.out]; exact ownsRow_lo hown.out (by omega), by simpa using hIt.out, HB⟩
  · obtain ⟨i, hi, him⟩ := placeB_true hb9
    obtain rfl : z = i := by rw [← hz.out]; unfold rplace; rw [if_pos hb9]; exact hi
    obtain ⟨u, hu⟩ : ∃ u, its[i]? = some u := ⟨_, List.getElem?_eq_getElem him⟩
    obtain ⟨g, q, rfl, hg, hV⟩ := hL.out.resolve_left (by intro e; subst e; simp at him)
    obtain ⟨cs, hC, hr⟩ := VRepL.at its q i u hV hu
    obtain ⟨k2, x2, s2, an2, ln2, cn2, ai2, li2, ci2, rfl⟩ := vrep_five hr
    have p0 := hC 0 _ rfl; have p1 := hC 1 _ rfl; have p2 := hC 2 _ rfl; have p3 := hC 3 _ rfl; have p4 := hC 4 _ rfl
    simp only [Nat.add_zero] at p0
    obtain rfl : G = allF n u r := hG.out.symm.trans (allF_some (t := .node k x tx ns its) hb9 hi hu)
    have hpu := partsL_mem hu
    have hcall := hid_f (fun W (hB : Below W0.heap.size W0 W) => IH.out W0 u _ (.slice (some ⟨b, if c = 1 then o else o + 1, none⟩) r.length (c - 1)) r W (hsz.out u (List.mem_of_getElem? hu)) hB hr (reads_tail hbb hA.out hc) (fun s hs => hS.out s (by simp [hs])) (by omega) (by have h2 := hb.out; omega))
    clear hV hC hr hb9 hi hL hN hz hG
    have i1 : (i : Int) < (its.length : Int) := by omega
    have i2 : (0 : Int) ≤ (i : Int) := by omega
    go_wp2_with fail
    replace h0' : Y.drew.heap[w.heap.size]? = _ := h0'
    replace HY : Below W0.heap.size W0 Y.drew := below_drew HY
    replace HB' : Below w.heap.size w Y.drew := below_drew HB'
    generalize hZ : Y.drew = Z at HY h0' HB'
    refine wp_region_noPanic ?_
    refine Until.wp_region_U (fun w' => Below W0.heap.size W0 w' ∧ w'.heap[w.heap.size]? = some (.cells #[.int .i64 k, .int .i64 x, .string tx, .slice an ns.length cn, .slice (some ⟨g, q, none⟩) its.length ci] 25 (0, 0))) (fun _ => True) 7 (by kernel_rfl) ?_
    rw [hZ]
    clear hZ
    refine Until.wpU_pure (i := 0) (oi := { dst := some 29, op := Op.fieldAddr 25 (Operand.tmp 2) 4, type := 0, pos := "ref.go:128", after := #[], guard := none }) (v := .pointer (some ⟨w.heap.size, 4, none⟩)) rfl (by kernel_rfl) (by kernel_rfl) (by kernel_rfl) (by kernel_rfl) (by kernel_rfl) (fun _ _ _ h => h) (⟨HY, h0'⟩) (fun _ => trivial) (by rfl) (by intro w'; go_simp) ?_
    try simp only [Act.put, List.setIfInBounds_toArray, List.set_cons_zero, List.set_cons_succ]
    refine Until.wpU_load0 (i := 1) (oi := { dst := some 30, op := Op.load 23 (Operand.tmp 29), type := 23, pos := "ref.go:128", after := #[{ on := 0, ground := Ground.data }], guard := none }) (v := .slice (some ⟨g, q, none⟩) its.length ci) rfl (by kernel_rfl) (by kernel_rfl) (by kernel_rfl) (by kernel_rfl) (by kernel_rfl) (fun _ _ _ h => h) (⟨HY, h0'⟩) (fun _ => trivial) (by rfl) (by intro w' hw'; obtain ⟨t0, t1, t2, t3, t4, -⟩ := row_cells hw'.2; clear hw'; go_simp) ?_
    try simp only [Act.put, List.setIfInBounds_toArray, List.set_cons_zero, List.set_cons_succ]
    refine Until.wpU_pure (i := 2) (oi := { dst := some 31, op := Op.move (Operand.tmp 7), type := 3, pos := "ref.go:128", after := #[], guard := none }) (v := .int .i64 i) rfl (by kernel_rfl) (by kernel_rfl) (by kernel_rfl) (by kernel_rfl) (by kernel_rfl) (fun _ _ _ h => h) (⟨HY, h0'⟩) (fun _ => trivial) (by rfl) (by intro w'; go_simp) ?_
    try simp only [Act.put, List.setIfInBounds_toArray, List.set_cons_zero, List.set_cons_succ]
    refine Until.wpU_pure (i := 3) (oi := { dst := some 32, op := Op.indexAddr 23 (Operand.tmp 30) (Operand.tmp 31), type := 0, pos := "ref.go:128", after := #[{ on := 1, ground := Ground.data }, { on := 2, ground := Ground.data }], guard := none }) (v := .pointer (some ⟨g, q + i * 5, none⟩)) rfl (by kernel_rfl) (by kernel_rfl) (by kernel_rfl) (by kernel_rfl) (by kernel_rfl) (fun _ _ _ h => h) (⟨HY, h0'⟩) (fun _ => trivial) (by rfl) (by intro w'; go_simp) ?_
    try simp only [Act.put, List.setIfInBounds_toArray, List.set_cons_zero, List.set_cons_succ]
    refine Until.wpU_load0 (i := 4) (oi := { dst := some 33, op := Op.load 25 (Operand.tmp 32), type := 25, pos := "ref.go:128", after := #[{ on := 3, ground := Ground.data }], guard := none }) (v := .agg #[.int .i64 k2, .int .i64 x2, .string s2, .slice an2 ln2 cn2, .slice ai2 li2 ci2]) rfl (by kernel_rfl) (by kernel_rfl) (by kernel_rfl) (by kernel_rfl) (by kernel_rfl) (fun _ _ _ h => h) (⟨HY, h0'⟩) (fun _ => trivial) (by rfl) (by intro w' hw'; have t0 := stay hw'.1 p0; have t1 := stay hw'.1 p1; have t2 := stay hw'.1 p2; have t3 := stay hw'.1 p3; have t4 := stay hw'.1 p4; clear hw'; go_simp) ?_
    try simp only [Act.put, List.setIfInBounds_toArray, List.set_cons_zero, List.set_cons_succ]
    refine Until.wpU_pure (i := 5) (oi := { dst := some 34, op := Op.move (Operand.tmp 1), type := 22, pos := "ref.go:128", after := #[], guard := none }) (v := .slice (some ⟨b, o, none⟩) (r.length + 1) c) rfl (by kernel_rfl) (by kernel_rfl) (by kernel_rfl) (by kernel_rfl) (by kernel_rfl) (fun _ _ _ h => h) (⟨HY, h0'⟩) (fun _ => trivial) (by rfl) (by intro w'; go_simp) ?_
    try simp only [Act.put, List.setIfInBounds_toArray, List.set_cons_zero, List.set_cons_succ]
    by_cases hc1 : c = 1
    · subst hc1
      obtain rfl : r = [] := List.eq_nil_of_length_eq_zero (by omega)
      replace hcall := hid_f hcall.out
      have hl1 : (1 : Int) ≤ (([] : List ByteArray).length : Int) + 1 := by simp
      refine Until.wpU_pure (i := 6) (oi := { dst := some 35, op := Op.slice 22 (Operand.tmp 34) (some (Operand.const (Value.int IntKind.i64 1))) none none, type := 22, pos := "ref.go:128", after := #[{ on := 5, ground := Ground.data }], guard := none }) (v := .slice (some ⟨b, o, none⟩) 0 0) rfl (by kernel_rfl) (by kernel_rfl) (by kernel_rfl) (by kernel_rfl) (by kernel_rfl) (fun _ _ _ h => h) (⟨HY, h0'⟩) (fun _ => trivial) (by rfl) (by intro w'; go_simp) ?_
      try simp only [Act.put, List.setIfInBounds_toArray, List.set_cons_zero, List.set_cons_succ]
      refine Until.wpU_ready (rs := [7]) (by kernel_rfl) (by simp) ?_
      refine (Until.AllU.cons (o := { dst := some 36, op := Op.call { callee := Callee.value (Operand.func 68), args := #[Operand.tmp 33, Operand.tmp 35], argTypes := #[25, 22] }, type := 23, pos := "ref.go:128", after := #[{ on := 4, ground := Ground.data }, { on := 6, ground := Ground.data }], guard := none }) rfl (fun K hK => ?_) Until.AllU.nil)
      go_simp
      refine (hcall.out Z HY).mono ?_
      rintro e Z2 ⟨fv, zs, rfl, e1, e2, e3⟩
      have d0 := (e3.block _ (Array.getElem?_eq_some_iff.1 h0').1).trans h0'
      have DY : Below W0.heap.size W0 Z2 := HY.trans (e3.mono HY.size)
      have DB : Below w.heap.size w Z2 := HB'.trans (e3.mono HB'.size)
      replace e1 := hid_f (ownsRow_lo e1 HB'.size)
      replace e2 := hid_f e2
      refine hK.out _ _ ⟨DY, d0⟩ (fun _ => trivial) ?_
      clear hK K
      try simp only [Act.put, List.setIfInBounds_toArray, List.set_cons_zero, List.set_cons_succ]
      refine Until.wpU_ready (rs := [8]) (by kernel_rfl) (by simp) ?_
      refine (Until.AllU.cons (o := { dst := some 4, op := Op.assign (Operand.tmp 36), type := 23, pos := "ref.go:128", after := #[{ on := 7, ground := Ground.data }, { on := 7, ground := Ground.chain }, { on := 0, ground := Ground.phase }, { on := 1, ground := Ground.phase }, { on := 2, ground := Ground.phase }, { on := 3, ground := Ground.phase }, { on := 4, ground := Ground.phase }, { on := 5, ground := Ground.phase }, { on := 6, ground := Ground.phase }, { on := 7, ground := Ground.phase }], guard := none }) rfl (fun K hK => ?_) Until.AllU.nil)
      go_simp
      refine hK.out _ _ ⟨DY, d0⟩ (fun _ => trivial) ?_
      clear hK K
      try simp only [Act.put, List.setIfInBounds_toArray, List.set_cons_zero, List.set_cons_succ]
      refine Until.wpU_done (by kernel_rfl) ?_ _
      refine NoPanic.normal ?_
      go_wp2_with fail
      go_ret
      exact ⟨fv, zs, rfl, e1.out, e2.out, DB⟩
    · simp only [if_neg hc1] at hcall
      have hl1 : (1 : Int) ≤ (r.length : Int) + 1 := by omega
      have hl2 : ¬ ((r.length : Int) + 1 < 1) := by omega
      refine Until.wpU_pure (i := 6) (oi := { dst := some 35, op := Op.slice 22 (Operand.tmp 34) (some (Operand.const (Value.int IntKind.i64 1))) none none, type := 22, pos := "ref.go:128", after := #[{ on := 5, ground := Ground.data }], guard := none }) (v := .slice (some ⟨b, o + 1, none⟩) r.length (c - 1)) rfl (by kernel_rfl) (by kernel_rfl) (by kernel_rfl) (by kernel_rfl) (by kernel_rfl) (fun _ _ _ h => h) (⟨HY, h0'⟩) (fun _ => trivial) (by rfl) (by intro w'; go_simp) ?_
      try simp only [Act.put, List.setIfInBounds_toArray, List.set_cons_zero, List.set_cons_succ]
      refine Until.wpU_ready (rs := [7]) (by kernel_rfl) (by simp) ?_
      refine (Until.AllU.cons (o := { dst := some 36, op := Op.call { callee := Callee.value (Operand.func 68), args := #[Operand.tmp 33, Operand.tmp 35], argTypes := #[25, 22] }, type := 23, pos := "ref.go:128", after := #[{ on := 4, ground := Ground.data }, { on := 6, ground := Ground.data }], guard := none }) rfl (fun K hK => ?_) Until.AllU.nil)
      go_simp
      refine (hcall.out Z HY).mono ?_
      rintro e Z2 ⟨fv, zs, rfl, e1, e2, e3⟩
      have d0 := (e3.block _ (Array.getElem?_eq_some_iff.1 h0').1).trans h0'
      have DY : Below W0.heap.size W0 Z2 := HY.trans (e3.mono HY.size)
      have DB : Below w.heap.size w Z2 := HB'.trans (e3.mono HB'.size)
      replace e1 := hid_f (ownsRow_lo e1 HB'.size)
      replace e2 := hid_f e2
      refine hK.out _ _ ⟨DY, d0⟩ (fun _ => trivial) ?_
      clear hK K
      try simp only [Act.put, List.setIfInBounds_toArray, List.set_cons_zero, List.set_cons_succ]
      refine Until.wpU_ready (rs := [8]) (by kernel_rfl) (by simp) ?_
      refine (Until.AllU.cons (o := { dst := some 4, op := Op.assign (Operand.tmp 36), type := 23, pos := "ref.go:128", after := #[{ on := 7, ground := Ground.data }, { on := 7, ground := Ground.chain }, { on := 0, ground := Ground.phase }, { on := 1, ground := Ground.phase }, { on := 2, ground := Ground.phase }, { on := 3, ground := Ground.phase }, { on := 4, ground := Ground.phase }, { on := 5, ground := Ground.phase }, { on := 6, ground := Ground.phase }, { on := 7, ground := Ground.phase }], guard := none }) rfl (fun K hK => ?_) Until.AllU.nil)
      go_simp
      refine hK.out _ _ ⟨DY, d0⟩ (fun _ => trivial) ?_
      clear hK K
      try simp only [Act.put, List.setIfInBounds_toArray, List.set_cons_zero, List.set_cons_succ]
      refine Until.wpU_done (by kernel_rfl) ?_ _
      refine NoPanic.normal ?_
      go_wp2_with fail
      go_ret
      exact ⟨fv, zs, rfl, e1.out, e2.out, DB⟩
theorem rall_ok : (n : Nat) → RAllOk n
  | 0 => fun _ t _ _ _ _ h => by have := sizeOf_pos t; omega
  | n + 1 => fun W0 t cs pv l w h1 h2 h3 h4 h5 h6 h7 => by
    cases l with
    | nil =>
      obtain ⟨a, c, rfl, _, _⟩ := h4
      obtain ⟨k, x, s, an, ln, cn, ai, li, ci, rfl⟩ := vrep_five h3
      rw [allF_nil]
      exact rall_nil W0 k x s an ln cn ai li ci t a c w (hid_f h3)
    | cons sg r =>
      cases t with
      | node k x s ns its =>
        obtain ⟨a, c, rfl, hc, hA⟩ := h4
        obtain ⟨b, o, rfl, hb, hA⟩ := hA.resolve_left (by simp)
        unfold VRep at h3
        obtain ⟨nm, ai, ci, rfl, hn, hci, hI⟩ := h3
        obtain ⟨an, cn, rfl, -, -⟩ := id hn
        rw [partsT_node] at h7
        simp only [Tr.node.sizeOf_spec] at h1
        have hlp := len_parts its
        exact rall_step n (hid_f (rall_ok n)) W0 k x s an cn ns ai ci its b o c sg r w (hid_f (fun u hu => by have := List.sizeOf_lt_of_mem hu; omega)) h2 (hid_f hn) (by omega) (hid_f hI) hb (hid_f hA) (by simpa using hc) (by simpa using h6) (hid_f h5) (hid_f (by omega))
end Go.Proofs.YtgigikcopedoeaaGreat.Tree

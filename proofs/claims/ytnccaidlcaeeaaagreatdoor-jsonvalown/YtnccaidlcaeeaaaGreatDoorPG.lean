import Derived.Test.YtnccaidlcaeeaaaGreatDoorPF
import Derived.Test.YtnccaidlcaeeaaaGreatDoorPC
import Derived.Test.YtnccaidlcaeeaaaGreatDoorR4
import Derived.Test.YtnccaidlcaeeaaaGreatDoorZ1
import Derived.Deep.Upon
/-! The document's reader of texts: what a text leans on. -/
namespace Go.Proofs.YtnccaidlcaeeaaaGreatDoor.Tree
open Go Go.RowKit

theorem own_conv {w : World} {lo : Nat} {v : Value} {l : List UInt8} (h : w.ownsRow lo 5 1 v l.length (Lib.byteCells l)) : (convert 62 9 v).run Tryz.prog w = .ok (.string ⟨l.toArray⟩) w := by
  rcases h.2 with ⟨hv, h0⟩ | ⟨g, cap, cur, hv, hg, hh, hc, hm, r⟩
  · obtain rfl : l = [] := List.eq_nil_of_length_eq_zero h0
    subst hv
    rw [run_convert_bytes_string w 62 9 5 none 0 0 Tryz.underlying62 Tryz.underlying5 Tryz.underlying9]
    rfl
  · subst hv
    refine run_convert_bytes_back w 62 9 5 ⟨g, 0, none⟩ cap l Tryz.underlying62 Tryz.underlying5 Tryz.underlying9 (fun j hj => ?_)
    rw [add_off, Nat.zero_add]
    refine row_cell h j _ ?_
    unfold Lib.byteCells
    rw [List.getElem?_map, List.getElem?_eq_getElem hj]
    rfl
theorem run_app_str (w : World) (base : Nat) (ty : TypeId) (v : Value) (acc : List UInt8) (hown : w.ownsRow base 5 1 v acc.length (Lib.byteCells acc)) (s : ByteArray) (hb : acc.length + s.size ≤ 100000000000) (hbase : base ≤ w.heap.size) :
    ∃ kv w', (Builtin.append_ #[62, 9] ty #[v, .string s]).run Tryz.prog w = .ok kv w' ∧ w'.ownsRow base 5 1 kv (acc ++ s.data.toList).length (Lib.byteCells (acc ++ s.data.toList)) ∧ w.grownBy w' v.ownBlock := by
  obtain ⟨i5, hi5, hz0, hz1, hz2⟩ := info_parts A5
  have hsl : s.data.toList.length = s.size := by rw [Array.length_toList]; rfl
  have hbc : byteCells s = Lib.byteCells s.data.toList := rfl
  by_cases h0 : s.size = 0
  · have hs0 : s.data.toList = [] := List.eq_nil_of_length_eq_zero (by omega)
    obtain ⟨av, cv, rfl⟩ := ownsRow_slice hown
    have hle : acc.length ≤ cv := by
      rcases hown.2 with ⟨hv, h1⟩ | ⟨g', cap', cur, hv, _, _, hc, _⟩
      · omega
      · cases hv; exact hc
    have hsr : Src Tryz.prog i5.size 9 (.string s) 0 [] w := by
      have := Src.ofString (P := Tryz.prog) w Tryz.underlying9 s
      rw [h0, hbc, hs0] at this
      rw [hz1]
      exact this
    refine ⟨_, w, run_append_nothing (P := Tryz.prog) w 62 9 ty 5 i5 Tryz.underlying62 hi5 av acc.length cv hle _ hsr, ?_, World.grownBy.refl w _⟩
    rw [hs0, List.append_nil]
    exact hown
  · rcases hown.2 with ⟨hv, h1⟩ | ⟨g', cap', cur, hv, _⟩
    · obtain rfl : acc = [] := List.eq_nil_of_length_eq_zero h1
      subst hv
      have hsr : Src Tryz.prog i5.size 9 (.string s) s.size (byteCells s) w := by
        rw [hz1]; exact Src.ofString (P := Tryz.prog) w Tryz.underlying9 s
      have hr := run_append_grow_src (P := Tryz.prog) w 62 9 ty 5 i5 (.int .u8 0) Tryz.underlying62 hi5 hz0 none 0 0 [] (run_firstCells_none w.drew i5.size 0 0 0) (.string s) s.size (byteCells s) hsr (by omega) (by omega) (growslice_fits (by omega) (by rw [hz2]; omega))
      have hge := grownCap_ge w (0 + s.size) 0 5
      have hcm' : grownCap w (0 + s.size) 0 5 ≤ maxLen := grownCap_le_maxLen w (0 + s.size) 0 5 (by unfold maxLen; omega)
      refine ⟨_, _, hr, ?_, ⟨rfl, rfl, rfl, by simp, fun k hk _ => heap_alloc_old w.drew _ hk⟩⟩
      rw [List.nil_append, hsl, Nat.zero_add] at *
      refine ⟨by rw [Lib.byteCells_length]; omega, .inr ⟨w.heap.size, _, _, rfl, hbase, heap_alloc_new w.drew _, hge, hcm', ?_, ?_⟩⟩
      · simp only [Array.size_append, List.size_toArray, size_zeroCells, byteCells_length]
        have : (Value.int IntKind.u8 0).cells.size = 1 := rfl
        rw [this]
        omega
      · simp only [Array.toList_append, List.nil_append, hbc]
        rw [Nat.mul_one]
        exact List.take_left' (by rw [Lib.byteCells_length])
    · subst hv
      obtain ⟨g2, c2, w', hr, h2, h3, -⟩ := run_append_src (P := Tryz.prog) w base 62 9 ty 5 i5 (.int .u8 0) 1 Tryz.underlying62 hi5 hz0 hz1 hz2 rfl g' acc.length cap' _ hown (.string s) s.size (byteCells s) (Src.ofString (P := Tryz.prog) w Tryz.underlying9 s) (by unfold maxLen; omega) (by omega) hbase
      refine ⟨_, w', hr, ?_, h3⟩
      rw [List.length_append, hsl, Lib.byteCells_append]
      exact h2
theorem list_app_str {ops : Array Oper} {rest : List Oper} {o : Oper} {a : Act} {Q : Exit → Act → World → Prop} (w : World) (hgd : o.guard = none) (x y : Operand)
    (ho : o.op = .call { callee := .builtin .append, args := #[x, y], argTypes := #[62, 9] }) (base : Nat) (v : Value) (acc : List UInt8) (hx : a.eval x = v) (hown : w.ownsRow base 5 1 v acc.length (Lib.byteCells acc)) (s : ByteArray) (hy : a.eval y = .string s)
    (hb : acc.length + s.size ≤ 100000000000) (hbase : base ≤ w.heap.size)
    (h : ∀ kv w', w'.ownsRow base 5 1 kv (acc ++ s.data.toList).length (Lib.byteCells (acc ++ s.data.toList)) → w.grownBy w' v.ownBlock → wpList Tryz.prog ops Q rest (a.put o.dst kv) w') : wpList Tryz.prog ops Q (o :: rest) a w :=
  wpList_plain hgd fun K hK => by
    obtain ⟨kv, w', hr, h2, h3⟩ := run_app_str w base o.type v acc hown s hb hbase
    unfold Oper.wp execOp
    simp only [ho, resolve, invoke, builtin, Sem.run_bind, Sem.run_pure, Result.andThen_ok, List.map_toArray, List.map_cons, List.map_nil, hx, hy, hr]
    exact hK _ _ (h kv w' h2 h3)
theorem step_app_str {ops : Array Oper} {o : Oper} {a : Act} {K : Act → World → Prop} {Q : Exit → Act → World → Prop} {E : Prop} (w : World) (hgd : o.guard = none) (x y : Operand)
    (ho : o.op = .call { callee := .builtin .append, args := #[x, y], argTypes := #[62, 9] }) (base : Nat) (v : Value) (acc : List UInt8) (hx : a.eval x = v) (hown : w.ownsRow base 5 1 v acc.length (Lib.byteCells acc)) (s : ByteArray) (hy : a.eval y = .string s)
    (hb : acc.length + s.size ≤ 100000000000) (hbase : base ≤ w.heap.size)
    (h : ∀ kv w', w'.ownsRow base 5 1 kv (acc ++ s.data.toList).length (Lib.byteCells (acc ++ s.data.toList)) → w.grownBy w' v.ownBlock → K (a.put o.dst kv) w') : if Region.wanted o (yielded ops a.tmps) = true then Oper.wp Tryz.prog o a w K Q else E := by
  have hw : Region.wanted o (yielded ops a.tmps) = true := by simp [Region.wanted, hgd]
  rw [if_pos hw]
  obtain ⟨kv, w', hr, h2, h3⟩ := run_app_str w base o.type v acc hown s hb hbase
  unfold Oper.wp execOp
  simp only [ho, resolve, invoke, builtin, Sem.run_bind, Sem.run_pure, Result.andThen_ok, List.map_toArray, List.map_cons, List.map_nil, hx, hy, hr]
  exact h kv w' h2 h3
/-! Characters: what Character tells, against the decoding. -/
set_option maxHeartbeats 4000000 in
theorem lead_cases {b n lo hi : Nat} (h : Lead b n lo hi) : (194 ≤ b ∧ b ≤ 223 ∧ n = 2 ∧ lo = 128 ∧ hi = 191) ∨ (b = 224 ∧ n = 3 ∧ lo = 160 ∧ hi = 191) ∨ (225 ≤ b ∧ b ≤ 236 ∧ n = 3 ∧ lo = 128 ∧ hi = 191) ∨ (b = 237 ∧ n = 3 ∧ lo = 128 ∧ hi = 159) ∨ (238 ≤ b ∧ b ≤ 239 ∧ n = 3 ∧ lo = 128 ∧ hi = 191) ∨ (b = 240 ∧ n = 4 ∧ lo = 144 ∧ hi = 191) ∨ (241 ≤ b ∧ b ≤ 243 ∧ n = 4 ∧ lo = 128 ∧ hi = 191) ∨ (b = 244 ∧ n = 4 ∧ lo = 128 ∧ hi = 143) := by
  obtain ⟨h1, h2, h3, h4, h5⟩ := h
  have hr : b < 194 ∨ (194 ≤ b ∧ b ≤ 223) ∨ b = 224 ∨ (225 ≤ b ∧ b ≤ 236) ∨ b = 237 ∨ (238 ≤ b ∧ b ≤ 239) ∨ b = 240 ∨ (241 ≤ b ∧ b ≤ 243) ∨ b = 244 ∨ 245 ≤ b := by clear h2 h3 h4 h5; omega
  rcases hr with hr | hr | hr | hr | hr | hr | hr | hr | hr | hr
  · have hF : Lib.firstT b = 241 := by
      clear h2 h3 h4 h5
      unfold Lib.firstT
      repeat' split
      all_goals first | rfl | omega
    rw [hF] at h3 h4 h5
    clear h4 h5
    exfalso
    omega
  · have hF : Lib.firstT b = 2 := by
      clear h2 h3 h4 h5
      unfold Lib.firstT
      repeat' split
      all_goals first | rfl | omega
    rw [hF] at h3 h4 h5
    exact .inl ⟨hr.1, hr.2, h3.symm.trans (by decide), h4.symm.trans (by decide), h5.symm.trans (by decide)⟩
  · have hF : Lib.firstT b = 19 := by
      clear h2 h3 h4 h5
      unfold Lib.firstT
      repeat' split
      all_goals first | rfl | omega
    rw [hF] at h3 h4 h5
    exact .inr (.inl ⟨hr, h3.symm.trans (by decide), h4.symm.trans (by decide), h5.symm.trans (by decide)⟩)
  · have hF : Lib.firstT b = 3 := by
      clear h2 h3 h4 h5
      unfold Lib.firstT
      repeat' split
      all_goals first | rfl | omega
    rw [hF] at h3 h4 h5
    exact .inr (.inr (.inl ⟨hr.1, hr.2, h3.symm.trans (by decide), h4.symm.trans (by decide), h5.symm.trans (by decide)⟩))
  · have hF : Lib.firstT b = 35 := by
      clear h2 h3 h4 h5
      unfold Lib.firstT
      repeat' split
      all_goals first | rfl | omega
    rw [hF] at h3 h4 h5
    exact .inr (.inr (.inr (.inl ⟨hr, h3.symm.trans (by decide), h4.symm.trans (by decide), h5.symm.trans (by decide)⟩)))
  · have hF : Lib.firstT b = 3 := by
      clear h2 h3 h4 h5
      unfold Lib.firstT
      repeat' split
      all_goals first | rfl | omega
    rw [hF] at h3 h4 h5
    exact .inr (.inr (.inr (.inr (.inl ⟨hr.1, hr.2, h3.symm.trans (by decide), h4.symm.trans (by decide), h5.symm.trans (by decide)⟩))))
  · have hF : Lib.firstT b = 52 := by
      clear h2 h3 h4 h5
      unfold Lib.firstT
      repeat' split
      all_goals first | rfl | omega
    rw [hF] at h3 h4 h5
    exact .inr (.inr (.inr (.inr (.inr (.inl ⟨hr, h3.symm.trans (by decide), h4.symm.trans (by decide), h5.symm.trans (by decide)⟩)))))
  · have hF : Lib.firstT b = 4 := by
      clear h2 h3 h4 h5
      unfold Lib.firstT
      repeat' split
      all_goals first | rfl | omega
    rw [hF] at h3 h4 h5
    exact .inr (.inr (.inr (.inr (.inr (.inr (.inl ⟨hr.1, hr.2, h3.symm.trans (by decide), h4.symm.trans (by decide), h5.symm.trans (by decide)⟩))))))
  · have hF : Lib.firstT b = 68 := by
      clear h2 h3 h4 h5
      unfold Lib.firstT
      repeat' split
      all_goals first | rfl | omega
    rw [hF] at h3 h4 h5
    exact .inr (.inr (.inr (.inr (.inr (.inr (.inr (⟨hr, h3.symm.trans (by decide), h4.symm.trans (by decide), h5.symm.trans (by decide)⟩)))))))
  · have hF : Lib.firstT b = 241 := by
      clear h2 h3 h4 h5
      unfold Lib.firstT
      repeat' split
      all_goals first | rfl | omega
    rw [hF] at h3 h4 h5
    clear h4 h5
    exfalso
    omega
set_option maxHeartbeats 4000000 in
theorem decN_good {n b0 b1 b2 b3 N lo hi : Nat} (hL : Lead b0 N lo hi) (hn : N ≤ n) (h1 : lo ≤ b1 ∧ b1 ≤ hi) (h2 : 3 ≤ N → 128 ≤ b2 ∧ b2 ≤ 191) (h3 : 4 ≤ N → 128 ≤ b3 ∧ b3 ≤ 191) : (Lib.decodeN n b0 b1 b2 b3).2 = N ∧ 128 ≤ (Lib.decodeN n b0 b1 b2 b3).1 := by
  have hc := lead_cases hL
  clear hL
  rcases hc with ⟨c1, c2, rfl, rfl, rfl⟩ | ⟨c1, rfl, rfl, rfl⟩ | ⟨c1, c2, rfl, rfl, rfl⟩ | ⟨c1, rfl, rfl, rfl⟩ | ⟨c1, c2, rfl, rfl, rfl⟩ | ⟨c1, rfl, rfl, rfl⟩ | ⟨c1, c2, rfl, rfl, rfl⟩ | ⟨c1, rfl, rfl, rfl⟩
  all_goals
    have h2' := h2
    have h3' := h3
    simp only [Nat.reduceLeDiff, false_implies, forall_const] at h2' h3'
    clear h2 h3
    unfold Lib.decodeN
    repeat' split
    all_goals first
      | (exfalso; omega)
      | (refine ⟨rfl, ?_⟩; simp only; omega)
set_option maxHeartbeats 4000000 in
theorem decN_bad {n b0 b1 b2 b3 N lo hi : Nat} (hL : Lead b0 N lo hi) (h : n < N ∨ (1 < n ∧ (b1 < lo ∨ hi < b1)) ∨ (3 ≤ N ∧ 2 < n ∧ (b2 < 128 ∨ 191 < b2)) ∨ (4 ≤ N ∧ 3 < n ∧ (b3 < 128 ∨ 191 < b3))) (hb1 : b1 < 256) (hb2 : b2 < 256) (hb3 : b3 < 256) : Lib.decodeN n b0 b1 b2 b3 = (65533, 1) := by
  have hc := lead_cases hL
  clear hL
  rcases hc with ⟨c1, c2, rfl, rfl, rfl⟩ | ⟨c1, rfl, rfl, rfl⟩ | ⟨c1, c2, rfl, rfl, rfl⟩ | ⟨c1, rfl, rfl, rfl⟩ | ⟨c1, c2, rfl, rfl, rfl⟩ | ⟨c1, rfl, rfl, rfl⟩ | ⟨c1, c2, rfl, rfl, rfl⟩ | ⟨c1, rfl, rfl, rfl⟩
  all_goals
    unfold Lib.decodeN
    repeat' split
    all_goals first | rfl | (exfalso; omega)
theorem decN_none {n b0 b1 b2 b3 : Nat} (h : NoLead b0) (hb : b0 < 256) : Lib.decodeN n b0 b1 b2 b3 = (65533, 1) := by
  unfold NoLead at h
  unfold Lib.decodeN
  repeat' split
  all_goals first | rfl | (exfalso; omega)
/-- A character. -/
theorem char_steps {T : ByteArray} {q : Nat} (hq : q < T.size) (h34 : byteAt T q ≠ 34) (h92 : byteAt T q ≠ 92) (h32 : 32 ≤ (byteAt T q).toNat) {z : Int} (h : CharIs (T.extract q T.size) z) :
    (∃ n : Nat, z = n ∧ 0 < n ∧ q + n ≤ T.size ∧ ∀ acc, txR T acc q = txR T (acc ++ bytesOf T q (q + n)) (q + n)) ∨ (z = 0 ∧ ∀ acc, txR T acc q = .bad 13 q) ∨ (z = -1 ∧ ∀ acc, txR T acc q = .bad 3 T.size) := by
  have hb : ∀ i, bt (T.extract q T.size) i = ((byteAt T (q + i)).toNat : Int) := fun i => by unfold bt; rw [tail_byte]
  have hl : ∀ i, (byteAt T i).toNat < 256 := fun i => (byteAt T i).toNat_lt
  have hsz : (T.extract q T.size).size = T.size - q := Lib.tail_size T q
  have e0 : byteAt (T.extract q T.size) 0 = byteAt T q := by rw [tail_byte, Nat.add_zero]
  have n34 : (byteAt T q).toNat ≠ 34 := fun e => h34 (UInt8.toNat_inj.1 (by rw [e]; rfl))
  have n92 : (byteAt T q).toNat ≠ 92 := fun e => h92 (UInt8.toNat_inj.1 (by rw [e]; rfl))
  have good : ∀ n : Nat, (Utf8.decode T q).2 = n → (32 ≤ (Utf8.decode T q).1 ∧ (Utf8.decode T q).1 ≠ 34 ∧ (Utf8.decode T q).1 ≠ 92) → ((Utf8.decode T q).1 = 65533 → n ≠ 1 ∧ fullT T q = true) → 0 < n ∧ q + n ≤ T.size ∧ ∀ acc, txR T acc q = txR T (acc ++ bytesOf T q (q + n)) (q + n) := fun n hn hc hf => by
    have hw := dec_wide T q hq
    rw [hn] at hw
    refine ⟨by omega, hw.2, fun acc => ?_⟩
    have hp : plR T q = plR T (q + (Utf8.decode T q).2) := by
      rw [plR_step T q hq, if_neg (by omega), if_neg (by omega)]
      by_cases h6 : (Utf8.decode T q).1 = 65533
      · obtain ⟨f1, f2⟩ := hf h6
        rw [if_pos h6, if_pos f2, if_neg (by rw [hn]; exact f1)]
      · rw [if_neg h6]
    have := txR_plain T acc q hq hp
    rw [hn] at this
    exact this
  have bad : Utf8.decode T q = (65533, 1) → ∀ acc, txR T acc q = if fullT T q = true then .bad 13 q else .bad 3 T.size := fun hd acc => by
    rw [txR_step T acc q (by omega), plR_step T q hq, hd]
    simp only
    cases fullT T q <;> rfl
  rcases h with ⟨h1, rfl⟩ | ⟨N, lo, hi, hL, hc⟩ | ⟨h1, rfl⟩
  · rw [hb, Nat.add_zero] at h1
    have hd := dec_asc T q (by omega)
    exact .inl ⟨1, rfl, good 1 (by rw [hd]) (by rw [hd]; exact ⟨h32, n34, n92⟩) (fun e => by rw [hd] at e; simp only at e; omega)⟩
  · rw [e0] at hL
    have hN : N = 2 ∨ N = 3 ∨ N = 4 := hL.2.1
    have hfT : Lib.firstT (byteAt T q).toNat % 8 = N := hL.2.2.1
    rcases hc with ⟨rfl, c1, c2, c3, c4⟩ | ⟨rfl, c1, c2⟩ | ⟨rfl, p, p1, p2, p3, p4, p5⟩
    · rw [hsz] at c1
      rw [hb] at c2 c3 c4
      have hd := decN_good (n := T.size - q) (b1 := (byteAt T (q + 1)).toNat) (b2 := (byteAt T (q + 2)).toNat) (b3 := (byteAt T (q + 3)).toNat) hL c1 (by omega) (fun h => by have := c3 h; omega) (fun h => by have := c4 h; omega)
      rw [← dec_N] at hd
      exact .inl ⟨N, rfl, good N hd.1 (by omega) (fun _ => ⟨by omega, by unfold fullT fullN; rw [if_pos (by omega)]⟩)⟩
    · rw [hsz] at c1 c2
      have hd := decN_bad (n := T.size - q) (b1 := (byteAt T (q + 1)).toNat) (b2 := (byteAt T (q + 2)).toNat) (b3 := (byteAt T (q + 3)).toNat) hL (.inl c1) (hl _) (hl _) (hl _)
      rw [← dec_N] at hd
      have hf : fullT T q = false := by
        obtain ⟨s1, s2, -⟩ := c2
        rw [hb] at s1 s2
        unfold fullT fullN
        have e4 := hL.2.2.2.1
        have e5 := hL.2.2.2.2
        rw [if_neg (by omega), if_neg (by rw [e4, e5]; intro hh; have := s1 hh.1; omega), if_neg (by intro hh; have := s2 hh.1; omega)]
      exact .inr (.inr ⟨rfl, fun acc => by rw [bad hd acc, hf]; rfl⟩)
    · rw [hsz] at p3
      unfold Bad at p5
      rw [hb, hb, hb] at p5
      obtain ⟨s1, s2, s3⟩ := p4
      rw [hb] at s1 s2 s3
      have hd := decN_bad (n := T.size - q) (b1 := (byteAt T (q + 1)).toNat) (b2 := (byteAt T (q + 2)).toNat) (b3 := (byteAt T (q + 3)).toNat) hL (by rcases p5 with ⟨rfl, hh⟩ | ⟨rfl, hh⟩ | ⟨rfl, hh⟩ <;> omega) (hl _) (hl _) (hl _)
      rw [← dec_N] at hd
      have hf : fullT T q = true := by
        unfold fullT fullN
        have e4 := hL.2.2.2.1
        have e5 := hL.2.2.2.2
        by_cases hle : Lib.firstT (byteAt T q).toNat % 8 ≤ T.size - q
        · rw [if_pos hle]
        · rw [if_neg hle, e4, e5]
          by_cases hx : 1 < T.size - q ∧ ((byteAt T (q + 1)).toNat < lo ∨ hi < (byteAt T (q + 1)).toNat)
          · rw [if_pos hx]
          · rw [if_neg hx]
            rw [if_pos ?_]
            rcases p5 with ⟨rfl, hh⟩ | ⟨rfl, hh⟩ | ⟨rfl, hh⟩
            · exact absurd ⟨by omega, by omega⟩ hx
            · exact ⟨by omega, by omega⟩
            · omega
      exact .inr (.inl ⟨rfl, fun acc => by rw [bad hd acc, hf]; rfl⟩)
  · rw [e0] at h1
    have hd := decN_none (n := T.size - q) (b1 := (byteAt T (q + 1)).toNat) (b2 := (byteAt T (q + 2)).toNat) (b3 := (byteAt T (q + 3)).toNat) h1 (hl _)
    rw [← dec_N] at hd
    have hf : fullT T q = true := by
      unfold fullT fullN
      have : Lib.firstT (byteAt T q).toNat = 241 := by
        unfold NoLead at h1
        unfold Lib.firstT
        repeat' split
        all_goals first | rfl | omega
      rw [this, if_pos (by omega)]
    exact .inr (.inl ⟨rfl, fun acc => by rw [bad hd acc, hf]; rfl⟩)
end Go.Proofs.YtnccaidlcaeeaaaGreatDoor.Tree

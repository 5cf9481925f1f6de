import Derived.Test.YtjmneiepcbpdpaaDoorBF
import Derived.Test.YtjmneiepcbpdpaaDoorBD
import Derived.Shelf.Unicode.DecodeAny
import Derived.Shelf.Bytes.SlIndexAt
import Derived.Deep.Upon
/-! The reader's texts: what they lean on. -/
namespace Go.Proofs.YtjmneiepcbpdpaaDoor
open Go Go.RowKit

/-! Texts, chunk by chunk. -/
def Sc.pre (a : List UInt8) : Sc → Sc
  | .fin s n => .fin (a ++ s) (n + a.length)
  | .short => .short
  | .bad n => .bad (n + a.length)
theorem scan_pre : ∀ (a r : List UInt8), (∀ b ∈ a, b ≠ 0) → scan (a ++ r) = (scan r).pre a
  | [], r, _ => by cases h : scan r <;> simp [Sc.pre, h]
  | b :: a, r, h => by
    show scan (b :: (a ++ r)) = _
    rw [scan_b (h b (.head _)), scan_pre a r (fun c hc => h c (.tail _ hc))]
    cases scan r <;> simp [Sc.pre, Sc.more, Nat.add_assoc]
theorem first_zero : ∀ (d : List UInt8), (Lib.indexByte d 0 = -1 ∧ scan d = .short) ∨ ∃ a e, d = a ++ 0 :: e ∧ (∀ b ∈ a, b ≠ 0) ∧ Lib.indexByte d 0 = (a.length : Int)
  | [] => .inl ⟨rfl, scan_nil⟩
  | b :: d => by
    by_cases hb : b = 0
    · subst hb
      exact .inr ⟨[], d, rfl, (fun _ h => by cases h), rfl⟩
    · have hb' : (b == 0) = false := by simpa using hb
      rcases first_zero d with ⟨h1, h2⟩ | ⟨a, e, h1, h2, h3⟩
      · refine .inl ⟨?_, ?_⟩
        · rw [Lib.indexByte, hb', h1]; rfl
        · rw [scan_b hb, h2]; rfl
      · refine .inr ⟨b :: a, e, by rw [h1]; rfl, fun c hc => ?_, ?_⟩
        · rcases List.mem_cons.1 hc with rfl | hc
          · exact hb
          · exact h2 c hc
        · rw [Lib.indexByte, hb', h3]
          have : ((a.length : Int) == -1) = false := by simp
          simp [this]
/-- What text tells, these bytes behind it, at a place. -/
def textK (l : List UInt8) (p : Nat) (acc : List UInt8) (q : Nat) : Rd ByteArray :=
  match scan (l.drop q) with
  | .short => .no 3 l.length
  | .bad n => .no 30 (q + n)
  | .fin s n => if Lib.validD (acc ++ s) = true then .ok ⟨(acc ++ s).toArray⟩ (q + n) else .no 13 p
theorem textK_start (l : List UInt8) (p : Nat) : textK l p [] p = textR l p := rfl
theorem textK_short {l : List UInt8} {p : Nat} {acc : List UInt8} {q : Nat} (h : scan (l.drop q) = .short) : textK l p acc q = .no 3 l.length := by unfold textK; rw [h]
theorem textK_last {l : List UInt8} {p : Nat} {acc : List UInt8} {q : Nat} {a : List UInt8} (h : l.drop q = a ++ [0]) (ha : ∀ b ∈ a, b ≠ 0) : textK l p acc q = .no 3 l.length :=
  textK_short (by rw [h, scan_pre a _ ha, scan_0]; rfl)
theorem textK_more {l : List UInt8} {p : Nat} {acc : List UInt8} {q : Nat} {a e : List UInt8} (h : l.drop q = a ++ 0 :: 255 :: e) (ha : ∀ b ∈ a, b ≠ 0) : textK l p acc q = textK l p (acc ++ a ++ [0]) (q + a.length + 2) := by
  have hd : l.drop (q + a.length + 2) = e := by
    have h1 := drop_app h
    have h2 := (drop_get h1).2.1
    exact (drop_get h2).2.1
  unfold textK
  rw [h, scan_pre a _ ha, scan_0c, if_pos rfl, hd]
  cases scan e with
  | short => rfl
  | bad n => simp only [Sc.more, Sc.pre]; congr 1; omega
  | fin s n =>
    simp only [Sc.more, Sc.pre]
    rw [show acc ++ (a ++ 0 :: s) = acc ++ a ++ [0] ++ s by simp, show q + (n + 2 + a.length) = q + a.length + 2 + n by omega]
theorem textK_end {l : List UInt8} {p : Nat} {acc : List UInt8} {q : Nat} {a e : List UInt8} (h : l.drop q = a ++ 0 :: 1 :: e) (ha : ∀ b ∈ a, b ≠ 0) : textK l p acc q = if Lib.validD (acc ++ a) = true then .ok ⟨(acc ++ a).toArray⟩ (q + a.length + 2) else .no 13 p := by
  unfold textK
  rw [h, scan_pre a _ ha, scan_0c, if_neg (by decide), if_pos rfl]
  simp only [Sc.pre, List.append_nil]
  rw [show q + (2 + a.length) = q + a.length + 2 by omega]
theorem textK_bad {l : List UInt8} {p : Nat} {acc : List UInt8} {q : Nat} {a e : List UInt8} {c : UInt8} (h : l.drop q = a ++ 0 :: c :: e) (ha : ∀ b ∈ a, b ≠ 0) (h1 : c ≠ 255) (h2 : c ≠ 1) : textK l p acc q = .no 30 (q + a.length + 1) := by
  unfold textK
  rw [h, scan_pre a _ ha, scan_0c, if_neg h1, if_neg h2]
  simp only [Sc.pre]
  rw [show q + (1 + a.length) = q + a.length + 1 by omega]

theorem Z5 : (Tryd.prog.info? 5).map (fun i => (i.zero, i.size, i.bytes)) = some (some (.int .u8 0), 1, 1) := by kernel_rfl
theorem bytes_one (l : List UInt8) : ∀ u ∈ Lib.byteCells l, u.oneCell' = true := by
  intro u hu
  obtain ⟨b, _, rfl⟩ := List.mem_map.1 hu
  rfl
/-- Bytes behind bytes, none of them too. -/
theorem step_append_bytes {ops : Array Oper} {o : Oper} {a : Act} {K : Act → World → Prop} {Q : Exit → Act → World → Prop} {E : Prop} (w : World) (hgd : o.guard = none) (s x : Operand)
    (ho : o.op = .call { callee := .builtin .append, args := #[s, x], argTypes := #[26, 26] }) (base : Nat) (v : Value) (acc : List UInt8) (hs : a.eval s = v) (hown : w.ownsRow base 5 1 v acc.length (Lib.byteCells acc))
    (ax : Option Addr) (m c : Nat) (add : List UInt8) (hm : add.length = m) (hx : a.eval x = .slice ax m c) (hsrc : add = [] ∨ ∃ g o, ax = some ⟨g, o, none⟩ ∧ Lie w g o add) (hb : acc.length + m ≤ 100000000000) (hbase : base ≤ w.heap.size)
    (h : ∀ kv w', w'.ownsRow base 5 1 kv (acc ++ add).length (Lib.byteCells (acc ++ add)) → w.grownBy w' v.ownBlock → (kv.ownBlock = v.ownBlock ∨ ∃ g, kv.ownBlock = some g ∧ w.heap.size ≤ g) → K (a.put o.dst kv) w') :
    if Region.wanted o (yielded ops a.tmps) = true then Oper.wp Tryd.prog o a w K Q else E := by
  obtain ⟨i5, hi5, hz0, hz1, hz2⟩ := info_parts Z5
  subst hm
  by_cases h0 : add = []
  · subst h0
    have hw : Region.wanted o (yielded ops a.tmps) = true := by simp [Region.wanted, hgd]
    rw [if_pos hw]
    obtain ⟨av, cv, rfl⟩ := ownsRow_slice hown
    have hle : acc.length ≤ cv := by
      rcases hown.2 with ⟨hv, h1⟩ | ⟨g', cap', cur, hv, _, _, hc, _⟩
      · omega
      · cases hv; exact hc
    have hsr : Src Tryd.prog i5.size 26 (.slice ax 0 c) 0 [] w := by
      cases ax with
      | none => exact Src.ofNil w Tryd.underlying26 c
      | some ad => exact Src.ofSlice w Tryd.underlying26 ad 0 c [] (by simp) (fun j u h => by simp at h) (fun u h => by cases h)
    have hr := run_append_nothing (P := Tryd.prog) w 26 26 o.type 5 i5 Tryd.underlying26 hi5 av acc.length cv hle _ hsr
    unfold Oper.wp execOp
    have hx' : a.eval x = .slice ax 0 c := hx
    simp only [ho, resolve, invoke, builtin, Sem.run_bind, Sem.run_pure, Result.andThen_ok, List.map_toArray, List.map_cons, List.map_nil, hs, hx', hr]
    exact h _ w (by rw [List.append_nil]; exact hown) (World.grownBy.refl w _) (.inl rfl)
  · obtain ⟨b, oo, rfl, hA⟩ := hsrc.resolve_left h0
    refine step_append_lies w hgd s x 26 ho base 5 i5 _ 1 1 Tryd.underlying26 hi5 hz0 hz1 hz2 rfl (by decide) _ acc.length (Lib.byteCells acc) hs hown _ add.length c (Lib.byteCells add) hx (by unfold Lib.byteCells; simp) (fun j u hu => ?_) (bytes_one add) (List.length_pos_iff.2 h0) (by unfold maxLen; omega) (by omega) hbase _ rfl ?_
    · unfold Lib.byteCells at hu
      rw [List.getElem?_map] at hu
      cases hy : add[j]? with
      | none => rw [hy] at hu; cases hu
      | some y =>
        rw [hy] at hu
        cases hu
        rw [add_off]
        exact hA j y hy
    · intro g' cap w' h1 h2 h3 _
      rw [← Lib.byteCells_append, ← List.length_append] at h1
      rw [← List.length_append]
      refine h _ w' h1 h2 ?_
      rcases h3 with e | e
      · exact .inl (by rw [e]; rfl)
      · exact .inr ⟨g', rfl, by omega⟩
theorem index_code (a : Addr) (n c : Nat) (d : List UInt8) (w : World) (hn : d.length = n) (hc : ∀ i b, d[i]? = some b → w.cell? (a.add i) = some (.int .u8 (b.toNat : Int))) :
    Calls Tryd.prog 44 #[.slice (some a) n c, .int .u8 0] w fun e w' => e = .returned (.int .i64 (Lib.indexByte d 0)) ∧ ∃ q, w' = w.drewN q := by
  have hb : Lib.bytesOf (d.map (fun b => (b.toNat : Int))) = d := by
    unfold Lib.bytesOf
    rw [List.map_map]
    conv => rhs; rw [← List.map_id d]
    refine List.map_congr_left (fun b _ => ?_)
    simp
  have hrun := Lib.run_indexByteAt (P := Tryd.prog) w a n c (d.map (fun b => (b.toNat : Int))) (by rw [List.length_map]; exact hn) (fun i hi => by
    rw [List.getD_eq_getElem?_getD, List.getElem?_map]
    have hlt : i < d.length := by omega
    rw [List.getElem?_eq_getElem hlt]
    exact hc i _ (List.getElem?_eq_getElem hlt)) 0
  rw [hb] at hrun
  go_enter Tryd.func44, Tryd.ntmps44
  go_wp2_with fail
  rw [run_callFunc_extern Tryd.func57 (by kernel_rfl) (by kernel_rfl) (by kernel_rfl) (e := Extern.BytealgIndexByte.indexByte) (by kernel_rfl), hrun]
  simp only [Result.andThen]
  rw [Oper.upon_value]
  go_wp2_with fail
  go_ret
  exact ⟨rfl, 0, rfl⟩
set_option maxRecDepth 100000 in
set_option maxHeartbeats 2000000 in
theorem valid_nil (w : World) : Calls Tryd.prog 58 #[.slice none 0 0] w fun e w' => e = .returned (.bool true) ∧ Below w.heap.size w w' := by
  go_enter Tryd.func58, Tryd.ntmps58
  go_wp2_with fail
  go_loopw [0] (fun s wr => s = .slice none 0 0 ∧ wr = w) (fun _ _ => 0)
  case atStart => exact ⟨rfl, rfl⟩
  case round =>
    obtain ⟨rfl, rfl⟩ := hrel
    go_wp2_with fail
    go_ret
    exact ⟨rfl, Below.refl _ _⟩
theorem own_lie {w : World} {lo g cap : Nat} {s : List UInt8} (h : w.ownsRow lo 5 1 (.slice (some ⟨g, 0, none⟩) s.length cap) s.length (Lib.byteCells s)) : Lie w g 0 s := fun j b hj => by
  rw [Nat.zero_add]
  refine row_cell h j _ ?_
  unfold Lib.byteCells
  rw [List.getElem?_map, hj]
  rfl
theorem own_conv {w : World} {lo : Nat} {v : Value} {l : List UInt8} (h : w.ownsRow lo 5 1 v l.length (Lib.byteCells l)) : (convert 26 9 v).run Tryd.prog w = .ok (.string ⟨l.toArray⟩) w := by
  rcases h.2 with ⟨hv, h0⟩ | ⟨g, cap, cur, hv, hg, hh, hc, hm, r⟩
  · obtain rfl : l = [] := List.eq_nil_of_length_eq_zero h0
    subst hv
    rw [run_convert_bytes_string w 26 9 5 none 0 0 Tryd.underlying26 Tryd.underlying5 Tryd.underlying9]
    rfl
  · subst hv
    refine run_convert_bytes_back w 26 9 5 ⟨g, 0, none⟩ cap l Tryd.underlying26 Tryd.underlying5 Tryd.underlying9 (fun j hj => ?_)
    have := own_lie h j _ (List.getElem?_eq_getElem hj)
    rw [add_off]
    exact this
end Go.Proofs.YtjmneiepcbpdpaaDoor

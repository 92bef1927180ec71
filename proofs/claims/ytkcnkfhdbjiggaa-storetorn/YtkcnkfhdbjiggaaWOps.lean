/-
  Contracts of a writer's Byte, Word, Long, Put, Name, Patch in one form each: the error and the bytes behind as plain functions. Conditions: lengths fit.
-/
import Derived.Test.YtkcnkfhdbjiggaaNum
import Derived.Test.YtkcnkfhdbjiggaaWn
import Derived.Deep.AppendSrc
namespace Go.Proofs.Ytkcnkfhdbjiggaa
open Go.RowKit
set_option maxRecDepth 20000

/-- What holds behind a writer's call: the error, the bytes, and that nothing but the writer's own has turned. -/
def WPost (w : World) (p : Nat) (v : Value) (code : Int) (l' : List UInt8) (e : Ending) (w' : World) : Prop :=
  e = .returned (.int .i64 code) ∧ ∃ v', IsWriter w' p v' l' ∧ Kept (WT p v) w w' ∧ (∀ k, v'.ownBlock = some k → v.ownBlock = some k ∨ w.heap.size ≤ k)

theorem WPost.same {w w' : World} {p : Nat} {v : Value} {l : List UInt8} {code : Int} (h : IsWriter w p v l) (hb : Below w.heap.size w w') : WPost w p v code l (.returned (.int .i64 code)) w' :=
  ⟨rfl, v, h.below hb, Kept.of_below hb _, fun _ hk => .inl hk⟩

/-- A number of s bytes. -/
def loN (s : Nat) : Int := if s = 4 then -2147483648 else 0
def hiN (s : Nat) : Int := if s = 1 then 255 else if s = 2 then 65535 else 2147483647
def wE (l : List UInt8) (n : Int) (s : Nat) : Int := if n < loN s ∨ hiN s < n then 5 else if 1048576 < l.length + s then 7 else 0
def wL (l : List UInt8) (n : Int) (s : Nat) : List UInt8 := if wE l n s = 0 then l ++ be n s else l
/-- Bytes. -/
def jE (l m : List UInt8) : Int := if 1048576 < l.length + m.length then 7 else 0
def jL (l m : List UInt8) : List UInt8 := if jE l m = 0 then l ++ m else l
/-- A name's bytes. -/
def nb (s : ByteArray) : List UInt8 := UInt8.ofNat s.size :: s.data.toList
def nE (l : List UInt8) (s : ByteArray) : Int := if nameB s then jE l (nb s) else 6
def nL (l : List UInt8) (s : ByteArray) : List UInt8 := if nE l s = 0 then l ++ nb s else l
/-- A word in the place of two bytes. -/
def pE (l : List UInt8) (at_ n : Int) : Int := if n < 0 ∨ 65535 < n then 5 else if at_ < 0 ∨ (l.length : Int) - 2 < at_ then 1 else 0
def pL (l : List UInt8) (at_ n : Int) : List UInt8 := if pE l at_ n = 0 then laid l at_.toNat 2 n 0 else l

theorem wnumber_u {w : World} {p : Nat} {v : Value} {l : List UInt8} (h : IsWriter w p v l) (n : Int) (s : Nat) (hs : s = 1 ∨ s = 2 ∨ s = 4) :
    Calls Try.prog 82 #[.pointer (some ⟨p, 0, none⟩), .int .i64 n, .int .i64 (s : Int), .int .i64 (loN s), .int .i64 (hiN s)] w (WPost w p v (wE l n s) (wL l n s)) := by
  by_cases hr : n < loN s ∨ hiN s < n
  · have e1 : wE l n s = 5 := by unfold wE; rw [if_pos hr]
    have e2 : wL l n s = l := by unfold wL; rw [e1]; rfl
    rw [e1, e2]
    refine (wnumber_range h n s _ _ hr).mono ?_
    rintro e w' ⟨rfl, rfl⟩
    exact WPost.same h (Below.refl _ _)
  · refine (wnumber_any h n _ _ s (by omega) (by omega) (by omega)).mono ?_
    rintro e w' ⟨ha, hb⟩
    by_cases hf : 1048576 < l.length + s
    · have e1 : wE l n s = 7 := by unfold wE; rw [if_neg hr, if_pos hf]
      have e2 : wL l n s = l := by unfold wL; rw [e1]; rfl
      rw [e1, e2]
      obtain ⟨rfl, _, h2⟩ := hb hf
      exact WPost.same h h2
    · have e1 : wE l n s = 0 := by unfold wE; rw [if_neg hr, if_neg hf]
      have e2 : wL l n s = l ++ be n s := by unfold wL; rw [e1]; rfl
      rw [e1, e2]
      exact ha (by omega)

theorem Put_u {w : World} {p : Nat} {v : Value} {l : List UInt8} (h : IsWriter w p v l) (b : Value) (m : List UInt8) (hb : SrcB w b m) (hm : m.length ≤ 140737488355328) :
    Calls Try.prog 71 #[.pointer (some ⟨p, 0, none⟩), b] w (WPost w p v (jE l m) (jL l m)) := by
  by_cases hf : 1048576 < l.length + m.length
  · have e1 : jE l m = 7 := by unfold jE; rw [if_pos hf]
    have e2 : jL l m = l := by unfold jL; rw [e1]; rfl
    rw [e1, e2]
    refine (Put_full h b m hb hm hf).mono ?_
    rintro e w' ⟨rfl, rfl⟩
    exact WPost.same h (Below.refl _ _)
  · have e1 : jE l m = 0 := by unfold jE; rw [if_neg hf]
    have e2 : jL l m = l ++ m := by unfold jL; rw [e1]; rfl
    rw [e1, e2]
    refine (Put_ok h b m hb (by omega)).mono ?_
    rintro e w' ⟨rfl, h2⟩
    exact ⟨rfl, h2⟩

theorem wByte_u {w : World} {p : Nat} {v : Value} {l : List UInt8} (h : IsWriter w p v l) (n : Int) :
    Calls Try.prog 68 #[.pointer (some ⟨p, 0, none⟩), .int .i64 n] w (WPost w p v (wE l n 1) (wL l n 1)) := by
  go_enter Try.func68, Try.ntmps68
  go_wp2_with fail
  refine (wnumber_u h n 1 (by omega)).mono ?_
  rintro e w' ⟨rfl, hP⟩
  go_wp2
  go_ret
  exact ⟨rfl, hP⟩
theorem wWord_u {w : World} {p : Nat} {v : Value} {l : List UInt8} (h : IsWriter w p v l) (n : Int) :
    Calls Try.prog 70 #[.pointer (some ⟨p, 0, none⟩), .int .i64 n] w (WPost w p v (wE l n 2) (wL l n 2)) := by
  go_enter Try.func70, Try.ntmps70
  go_wp2_with fail
  refine (wnumber_u h n 2 (by omega)).mono ?_
  rintro e w' ⟨rfl, hP⟩
  go_wp2
  go_ret
  exact ⟨rfl, hP⟩
/-- 'append([]byte{x}, s...)', s a text that is not empty: a row of its own. -/
theorem run_append_str (w : World) (x : UInt8) (z : Int) (hz : z = (x.toNat : Int)) (s : ByteArray) (h0 : 0 < s.size) (h1 : s.size ≤ 24) (ty : TypeId) :
    ∃ v' w', (Builtin.append_ #[25, 9] ty #[.slice (some ⟨w.heap.size, 0, none⟩) 1 1, .string s]).run Try.prog (w.alloc (.cells #[.int .u8 z] 5)) = .ok v' w' ∧
      OwnB w' w.heap.size v' (x :: s.data.toList) ∧ Below w.heap.size w w' := by
  obtain ⟨i0, hi, hz0, hz1, hz2⟩ := info_parts info8
  have hb := BAt.one w x z hz 5
  have hsz : (w.alloc (.cells #[.int .u8 z] 5)).heap.size = w.heap.size + 1 := by simp
  have hfc := run_firstCells_some (P := Try.prog) (w.alloc (.cells #[.int .u8 z] 5)).drew i0.size 1 ⟨w.heap.size, 0, none⟩ 1 1 (bvals [x]) (by rw [hz1]; rfl) hb.cells
  have hr := run_append_grow_src (P := Try.prog) (w.alloc (.cells #[.int .u8 z] 5)) 25 9 ty 5 i0 (.int .u8 0) Try.underlying25 hi hz0 (some ⟨w.heap.size, 0, none⟩) 1 1 (bvals [x]) hfc (.string s) s.size (byteCells s)
    (by rw [hz1]; exact Src.ofString _ Try.underlying9 s) (by omega) (by omega) (growslice_fits (by omega) (by rw [hz2]; omega))
  refine ⟨_, _, hr, ?_, ?_⟩
  · have hbc : bvals [x] ++ byteCells s = bvals (x :: s.data.toList) := by simp [bvals, byteCells]
    have hll : (x :: s.data.toList).length = 1 + s.size := by simp; omega
    have hge := grownCap_ge (w.alloc (.cells #[.int .u8 z] 5)) (1 + s.size) 1 5
    have hcm := grownCap_le_maxLen (w.alloc (.cells #[.int .u8 z] 5)) (1 + s.size) 1 5 (by unfold maxLen; omega)
    refine ⟨by rw [bvals_length]; omega, .inr ⟨_, _, _, by rw [hll]; rfl, by show w.heap.size ≤ (w.alloc _).heap.size; rw [hsz]; omega, heap_alloc_new _ _, by rw [hll]; exact hge, hcm, ?_, ?_⟩⟩
    · rw [hbc]
      simp only [Array.size_append, List.size_toArray, size_zeroCells, bvals_length, hll]
      have : (Value.int IntKind.u8 0).cells.size = 1 := rfl
      rw [this]
      omega
    · rw [hbc, Array.toList_append, hll]
      rw [show (1 + s.size) * 1 = (bvals (x :: s.data.toList)).length from by rw [bvals_length, hll]; omega]
      exact List.take_left
  · exact (((Below.refl _ w).alloc (Nat.le_refl _) _).drew).alloc (by show w.heap.size ≤ (w.alloc _).heap.size; rw [hsz]; omega) _

theorem wpList_appendStr {w : World} {ops : Array Oper} {rest : List Oper} {o : Oper} {a : Act} {Q : Exit → Act → World → Prop} (hgd : o.guard = none) (s x : Operand)
    (ho : o.op = .call { callee := .builtin .append, args := #[s, x], argTypes := #[25, 9] }) (y : UInt8) (z : Int) (hz : z = (y.toNat : Int)) (t : ByteArray) (h0 : 0 < t.size) (h1 : t.size ≤ 24)
    (hs : a.eval s = .slice (some ⟨w.heap.size, 0, none⟩) 1 1) (hx : a.eval x = .string t)
    (h : ∀ v' w', OwnB w' w.heap.size v' (y :: t.data.toList) → Below w.heap.size w w' → wpList Try.prog ops Q rest (a.put o.dst v') w') :
    wpList Try.prog ops Q (o :: rest) a (w.alloc (.cells #[.int .u8 z] 5)) := by
  refine wpList_plain hgd fun K hK => ?_
  obtain ⟨v', w', hrun, h2, h3⟩ := run_append_str w y z hz t h0 h1 o.type
  unfold Oper.wp
  simp [execOp, ho, resolve, invoke, builtin, hs, hx, hrun, Result.andThen]
  exact hK _ _ (h v' w' h2 h3)

theorem name_size {s : ByteArray} (h : nameB s = true) : 1 ≤ s.size ∧ s.size ≤ 24 := by
  unfold nameB at h
  simp only [Bool.and_eq_true, decide_eq_true_eq] at h
  exact ⟨h.1.1.1, h.1.1.2⟩

set_option maxHeartbeats 400000 in
theorem wName_u {w : World} {p : Nat} {v : Value} {l : List UInt8} (h : IsWriter w p v l) (s : ByteArray) (hs : s.size ≤ maxLen) :
    Calls Try.prog 69 #[.pointer (some ⟨p, 0, none⟩), .string s] w (WPost w p v (nE l s) (nL l s)) := by
  have HM := hide (wMade_yes h)
  cases hn : nameB s
  · have e1 : nE l s = 6 := by unfold nE; rw [hn]; rfl
    have e2 : nL l s = l := by unfold nL; rw [e1]; rfl
    rw [e1, e2]
    have HN := hide hn
    clear hn e1 e2
    go_enter Try.func69, Try.ntmps69
    go_wp2_with (first | (go_at_call 83; refine (unhide HM).mono ?_; rintro e w' ⟨rfl, rfl⟩) | (go_at_call 32; refine (IsName_any s _ hs).mono ?_; rintro e w' ⟨rfl, rfl⟩; rw [unhide HN]))
    go_ret
    exact WPost.same h (Below.refl _ _)
  · have e1 : nE l s = jE l (nb s) := by unfold nE; rw [hn]; rfl
    have e2 : nL l s = jL l (nb s) := by unfold nL jL; rw [e1]
    rw [e1, e2]
    obtain ⟨hs1, hs24⟩ := name_size hn
    have HN := hide hn
    have hsz : (s.size : Int) % 256 = (s.size : Int) := by omega
    have hx : ((s.size : Nat) : Int) = ((UInt8.ofNat s.size).toNat : Int) := by rw [UInt8.toNat_ofNat_of_lt' (by show _ < 256; omega)]
    have HX := hide hx
    have HH := hide h
    clear hn e1 e2 h hx
    go_enter Try.func69, Try.ntmps69
    go_wp2_with (first | (go_at_call 83; refine (unhide HM).mono ?_; rintro e w' ⟨rfl, rfl⟩) | (go_at_call 32; refine (IsName_any s _ hs).mono ?_; rintro e w' ⟨rfl, rfl⟩; rw [unhide HN]) | (at_builtin; refine wpList_appendStr rfl _ _ rfl (UInt8.ofNat s.size) _ (unhide HX) s (by omega) hs24 rfl rfl ?_))
    intro v1 w1 hO hB
    have hO' : OwnB w1 _ v1 (nb s) := hO
    have hW1 := (unhide HH).below hB
    have HO := hide hO'
    have HB := hide hB
    clear hO hO' hB
    go_wp2_with fail
    refine (Put_u hW1 v1 (nb s) (unhide HO).src (by simp [nb]; omega)).mono ?_
    rintro e w2 ⟨rfl, v2, hW2, hK2, hF2⟩
    have HK := hide (Kept.trans (U := WT p v) (Kept.of_below (unhide HB) (fun _ => False)) hK2 (fun _ _ h => h.elim) (fun _ _ h => h))
    have HF := hide (fun k hk => Or.elim (hF2 k hk) Or.inl (fun h => Or.inr (Nat.le_trans (unhide HB).size h)))
    have HW := hide hW2
    clear hK2 hF2 hW2
    go_wp2
    go_ret
    exact ⟨rfl, v2, unhide HW, unhide HK, unhide HF⟩

end Go.Proofs.Ytkcnkfhdbjiggaa

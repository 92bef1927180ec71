/-
  Contracts of strings.Clone and of the store's records: a byte, the name, and of one that keeps bytes how many and these.
-/
import Derived.Test.YtkcnkfhdbjiggaaSr16
import Derived.Test.YtkcnkfhdbjiggaaWOps
import Derived.Lib.BufferWrite
import Derived.Lib.UnsafeStr
import Derived.Lib.Hide
import Derived.Laws.MakeOwn
namespace Go.Proofs.Ytkcnkfhdbjiggaa
open Go.RowKit
set_option maxRecDepth 20000

set_option maxHeartbeats 4000000 in
set_option maxRecDepth 100000 in
theorem sliteClone_any (s : ByteArray) (w : World) (hlim : s.size ≤ 1048576) :
    Calls Try.prog 74 #[.string s] w fun e w' => e = .returned (.string s) ∧ Below w.heap.size w w' := by
  by_cases h0 : s.size = 0
  · have hs : s = ⟨#[]⟩ := by
      apply ByteArray.ext
      exact Array.eq_empty_of_size_eq_zero h0
    subst hs
    go_enter Try.func74, Try.ntmps74
    go_wp2
    go_ret
    exact ⟨rfl, Below.refl _ _⟩
  · obtain ⟨i0, hi, hz0, hz1, hz2⟩ := info_parts info8
    have hinfo : (Try.prog.info? 5).map (·.size) = some 1 := by rw [hi]; simp [hz1]
    have hco : Try.prog.cellsOf 5 = 1 := by kernel_rfl
    obtain ⟨M, hM⟩ : ∃ M, M = madeCells (Value.int .u8 0).cells (((s.size : Nat) : Int).toNat * i0.size) := ⟨_, rfl⟩
    have hMs : M.size = s.size := by rw [hM, size_madeCells, hz1]; simp
    have hmk : ∀ W : World, (Instr.makeSlice 25 (.int .i64 (s.size : Int)) (.int .i64 (s.size : Int))).run Try.prog W = .ok (.slice (some ⟨W.heap.size, 0, none⟩) s.size s.size) (W.alloc (.cells M 5)) := fun W => by
      have h := run_make (P := Try.prog) W 25 5 i0 (.int .u8 0) Try.underlying25 hi hz0 .i64 .i64 (s.size : Int) (s.size : Int) (by omega) (by omega) (by rw [hz2]; omega) (by omega)
      rw [← hM] at h
      simpa using h
    clear hM
    have hcp := Lib.run_copy_row_string (P := Try.prog) (w.alloc (.cells M 5)) 25 9 3 5 w.heap.size 0 s.size s.size s M 5 Try.underlying25 hinfo (heap_alloc_new w _) (Nat.le_refl _) (by omega)
    obtain ⟨Y, hY⟩ : ∃ Y, Y = (M.toList.take 0 ++ Lib.byteCells s.data.toList ++ M.toList.drop (0 + s.size)).toArray := ⟨_, rfl⟩
    rw [← hY] at hcp
    have hYl : Y.toList = Lib.byteCells s.data.toList := by
      rw [hY, List.toList_toArray, List.take_zero, List.nil_append, List.drop_of_length_le (by rw [Array.length_toList]; omega), List.append_nil]
    have hYs : Y.size = s.size := by rw [← Array.length_toList, hYl, Lib.byteCells_length, ← Lib.size_eq]
    have hgY : ((w.alloc (.cells M 5)).setRow w.heap.size Y).heap[w.heap.size]? = some (.cells Y 5 (0, 0)) := setRow_heap _ _ M _ 5 (0, 0) (heap_alloc_new w _)
    have hne : s.data.toList ≠ [] := fun e => h0 (by rw [Lib.size_eq, e]; rfl)
    have hUS := Lib.run_unsafeString_row (P := Try.prog) ((w.alloc (.cells M 5)).setRow w.heap.size Y) 129 3 9 5 Try.underlying129 hco w.heap.size Y.size (by unfold World.shape?; rw [hgY]) s.data.toList hne (by rw [← Lib.size_eq]; omega) (by rw [← Lib.size_eq]; omega)
      (fun j x hx => Lib.cells_of_row hgY Y.size j _ (by rw [List.take_of_length_le (by rw [Array.length_toList]; exact Nat.le_refl _), hYl]; simp [Lib.byteCells, hx]))
    rw [← Lib.size_eq] at hUS
    clear hY
    go_enter Try.func74, Try.ntmps74
    go_wp2
    go_ret
    have hb1 : Below w.heap.size w (w.alloc (.cells M 5)) := (Below.refl _ w).alloc (Nat.le_refl _) _
    have hb2 : Below w.heap.size (w.alloc (.cells M 5)) ((w.alloc (.cells M 5)).setRow w.heap.size Y) := ⟨rfl, rfl, rfl, by simp, fun k hk => setRow_other _ _ _ _ (by omega)⟩
    exact ⟨rfl, Lib.below_freeze (hb1.trans hb2) (p := ⟨w.heap.size, 0, none⟩) (Nat.le_refl _) _⟩
theorem strClone_any (s : ByteArray) (w : World) (hlim : s.size ≤ 1048576) :
    Calls Try.prog 47 #[.string s] w fun e w' => e = .returned (.string s) ∧ Below w.heap.size w w' := by
  have HS := hide (sliteClone_any s w hlim)
  go_enter Try.func47, Try.ntmps47
  go_wp2_with (go_at_call 74; refine (unhide HS).mono ?_; rintro e W ⟨rfl, hb⟩)
  go_ret
  exact ⟨rfl, hb⟩
/-- A record, plain. -/
def recK (s : ByteArray) (m : List UInt8) : List UInt8 := [1] ++ nb s ++ be (m.length : Int) 2 ++ m
def recD (s : ByteArray) : List UInt8 := [2] ++ nb s
theorem name_24 {s : ByteArray} (h : nameB s = true) : 1 ≤ s.size ∧ s.size ≤ 24 := by
  unfold nameB at h
  simp only [Bool.and_eq_true, decide_eq_true_eq] at h
  exact ⟨h.1.1.1, h.1.1.2⟩
theorem nb_len (s : ByteArray) : (nb s).length = s.size + 1 := by unfold nb; rw [List.length_cons, Array.length_toList]; rfl
theorem recD_len (s : ByteArray) : (recD s).length = s.size + 2 := by unfold recD; rw [List.length_append, nb_len]; simp; omega
theorem recK_len (s : ByteArray) (m : List UInt8) : (recK s m).length = s.size + 4 + m.length := by unfold recK; rw [List.length_append, List.length_append, List.length_append, nb_len, be_length]; simp; omega
theorem wE1 (n : Int) (h : n = 1 ∨ n = 2) : wE [] n 1 = 0 ∧ wL [] n 1 = [UInt8.ofNat n.toNat] := by
  have h1 : wE [] n 1 = 0 := by
    unfold wE loN hiN
    rcases h with rfl | rfl <;> simp
  refine ⟨h1, ?_⟩
  unfold wL
  rw [if_pos h1]
  rcases h with rfl | rfl <;> decide
theorem nE1 {x : UInt8} {s : ByteArray} (h : nameB s = true) : nE [x] s = 0 ∧ nL [x] s = [x] ++ nb s := by
  have h1 : nE [x] s = 0 := by
    unfold nE jE
    rw [if_pos h, if_neg (by rw [nb_len]; have := name_24 h; simp; omega)]
  refine ⟨h1, ?_⟩
  unfold nL
  rw [if_pos h1]
theorem wE2 {L : List UInt8} {n : Nat} (hL : L.length ≤ 100) (hn : n ≤ 4096) : wE L (n : Int) 2 = 0 ∧ wL L (n : Int) 2 = L ++ be (n : Int) 2 := by
  have h1 : wE L (n : Int) 2 = 0 := by
    unfold wE loN hiN
    simp
    omega
  refine ⟨h1, ?_⟩
  unfold wL
  rw [if_pos h1]
theorem jE2 {L m : List UInt8} (hL : L.length ≤ 100) (hm : m.length ≤ 4096) : jE L m = 0 ∧ jL L m = L ++ m := by
  have h1 : jE L m = 0 := by unfold jE; rw [if_neg (by omega)]
  refine ⟨h1, ?_⟩
  unfold jL
  rw [if_pos h1]
theorem below_wr {w0 w w' : World} {v : Value} (hb : Below w0.heap.size w0 w) (hv : ∀ k, v.ownBlock = some k → w0.heap.size ≤ k) (hk : Kept (WT w0.heap.size v) w w') : Below w0.heap.size w0 w' :=
  hk.below hb hb.size (fun k h => by
    rcases h with h | h
    · omega
    · exact hv k h)
theorem srcB_all {w : World} {ao : Option Addr} {c : Nat} {l : List UInt8} (h : BAt w ao l) (hn : ao = none → l = [] ∧ c = 0) : SrcB w (.slice ao l.length c) l := by
  cases ao with
  | none =>
    obtain ⟨h1, h2⟩ := hn rfl
    subst h1 h2
    exact Or.inl ⟨rfl, rfl⟩
  | some x => exact Or.inr ⟨x, c, rfl, h⟩
set_option maxHeartbeats 2000000 in
theorem keepRec_any (s : ByteArray) (ao : Option Addr) (c : Nat) (m : List UInt8) (w : World) (hs : nameB s = true) (hb : BAt w ao m) (hn : ao = none → m = [] ∧ c = 0) (hm : m.length ≤ 4096) :
    Calls Try.prog 45 #[.string s, .slice ao m.length c] w fun e w' => ∃ rb, e = .returned (.slice (some ⟨rb, 0, none⟩) (recK s m).length (recK s m).length) ∧ OwnB w' w.heap.size (.slice (some ⟨rb, 0, none⟩) (recK s m).length (recK s m).length) (recK s m) ∧ Below w.heap.size w w' := by
  have HN := hide (New_any w)
  have HBt := hide hb
  have h25 : ([UInt8.ofNat (1 : Int).toNat] ++ nb s).length ≤ 100 := by rw [List.length_append, nb_len]; have := name_24 hs; simp; omega
  have h27 : ([UInt8.ofNat (1 : Int).toNat] ++ nb s ++ be (m.length : Int) 2).length ≤ 100 := by rw [List.length_append, be_length]; have := nb_len s; have := name_24 hs; simp; omega
  go_enter Try.func45, Try.ntmps45
  go_wp2_with fail
  refine (unhide HN).mono ?_
  rintro e W0 ⟨rfl, hw0, hb0⟩
  have HB0 := hide hb0
  have HW0 := hide hw0
  have HV0 : Hid (∀ k, (Value.slice none 0 0).ownBlock = some k → w.heap.size ≤ k) := hide (fun k e => by cases e)
  clear hb0 hw0 HN
  have HC1 := hide (wByte_u (unhide HW0) 1)
  rw [(wE1 1 (Or.inl rfl)).1, (wE1 1 (Or.inl rfl)).2] at HC1
  go_wp2_with fail
  refine (unhide HC1).mono ?_
  rintro e W1 ⟨rfl, v1, hw, hk, hf⟩
  have HB1 := hide (below_wr (unhide HB0) (unhide HV0) hk)
  have HV1 : Hid (∀ k, v1.ownBlock = some k → w.heap.size ≤ k) := hide (fun k e => by
    rcases hf k e with h | h
    · exact unhide HV0 k h
    · have := (unhide HB0).size; omega)
  have HW1 := hide hw
  clear hw hk hf HC1
  have HC2 := hide (wName_u (unhide HW1) s (name_le hs))
  rw [(nE1 hs).1, (nE1 hs).2] at HC2
  go_wp2_with fail
  refine (unhide HC2).mono ?_
  rintro e W2 ⟨rfl, v2, hw, hk, hf⟩
  have HB2 := hide (below_wr (unhide HB1) (unhide HV1) hk)
  have HV2 : Hid (∀ k, v2.ownBlock = some k → w.heap.size ≤ k) := hide (fun k e => by
    rcases hf k e with h | h
    · exact unhide HV1 k h
    · have := (unhide HB1).size; omega)
  have HW2 := hide hw
  clear hw hk hf HC2
  have HC3 := hide (wWord_u (unhide HW2) (m.length : Int))
  rw [(wE2 h25 hm).1, (wE2 h25 hm).2] at HC3
  go_wp2_with fail
  refine (unhide HC3).mono ?_
  rintro e W3 ⟨rfl, v3, hw, hk, hf⟩
  have HB3 := hide (below_wr (unhide HB2) (unhide HV2) hk)
  have HV3 : Hid (∀ k, v3.ownBlock = some k → w.heap.size ≤ k) := hide (fun k e => by
    rcases hf k e with h | h
    · exact unhide HV2 k h
    · have := (unhide HB2).size; omega)
  have HW3 := hide hw
  clear hw hk hf HC3
  have HC4 := hide (Put_u (unhide HW3) (.slice ao m.length c) m (srcB_all ((unhide HBt).below' (unhide HB3)) hn) (by omega))
  rw [(jE2 h27 hm).1, (jE2 h27 hm).2] at HC4
  go_wp2_with fail
  refine (unhide HC4).mono ?_
  rintro e W4 ⟨rfl, v4, hw, hk, hf⟩
  have HB4 := hide (below_wr (unhide HB3) (unhide HV3) hk)
  have HV4 : Hid (∀ k, v4.ownBlock = some k → w.heap.size ≤ k) := hide (fun k e => by
    rcases hf k e with h | h
    · exact unhide HV3 k h
    · have := (unhide HB3).size; omega)
  have HW4 := hide hw
  clear hw hk hf HC4
  obtain ⟨R, hR⟩ : ∃ R, R = recK s m := ⟨_, rfl⟩
  have HWR : Hid (IsWriter W4 w.heap.size v4 R) := hide (by rw [hR]; exact unhide HW4)
  have HRR := hide hR
  clear hR
  have HBy := hide (Bytes_any (unhide HWR))
  go_wp2_with fail
  refine (unhide HBy).mono ?_
  rintro e Wz ⟨rfl, hO, hb⟩
  have HO := hide (hO.mono (unhide HB4).size)
  have HB := hide ((unhide HB4).trans (hb.mono (unhide HB4).size))
  clear hO hb HBy
  go_wp2
  go_ret
  exact ⟨W4.heap.size, by rw [← unhide HRR]; rfl, by rw [← unhide HRR]; exact unhide HO, unhide HB⟩
set_option maxHeartbeats 2000000 in
theorem dropRec_any (s : ByteArray) (w : World) (hs : nameB s = true) :
    Calls Try.prog 53 #[.string s] w fun e w' => ∃ rb, e = .returned (.slice (some ⟨rb, 0, none⟩) (recD s).length (recD s).length) ∧ OwnB w' w.heap.size (.slice (some ⟨rb, 0, none⟩) (recD s).length (recD s).length) (recD s) ∧ Below w.heap.size w w' := by
  have HN := hide (New_any w)
  go_enter Try.func53, Try.ntmps53
  go_wp2_with fail
  refine (unhide HN).mono ?_
  rintro e W0 ⟨rfl, hw0, hb0⟩
  have HB0 := hide hb0
  have HW0 := hide hw0
  have HV0 : Hid (∀ k, (Value.slice none 0 0).ownBlock = some k → w.heap.size ≤ k) := hide (fun k e => by cases e)
  clear hb0 hw0 HN
  have HC1 := hide (wByte_u (unhide HW0) 2)
  rw [(wE1 2 (Or.inr rfl)).1, (wE1 2 (Or.inr rfl)).2] at HC1
  go_wp2_with fail
  refine (unhide HC1).mono ?_
  rintro e W1 ⟨rfl, v1, hw, hk, hf⟩
  have HB1 := hide (below_wr (unhide HB0) (unhide HV0) hk)
  have HV1 : Hid (∀ k, v1.ownBlock = some k → w.heap.size ≤ k) := hide (fun k e => by
    rcases hf k e with h | h
    · exact unhide HV0 k h
    · have := (unhide HB0).size; omega)
  have HW1 := hide hw
  clear hw hk hf HC1
  have HC2 := hide (wName_u (unhide HW1) s (name_le hs))
  rw [(nE1 hs).1, (nE1 hs).2] at HC2
  go_wp2_with fail
  refine (unhide HC2).mono ?_
  rintro e W2 ⟨rfl, v2, hw, hk, hf⟩
  have HB2 := hide (below_wr (unhide HB1) (unhide HV1) hk)
  have HV2 : Hid (∀ k, v2.ownBlock = some k → w.heap.size ≤ k) := hide (fun k e => by
    rcases hf k e with h | h
    · exact unhide HV1 k h
    · have := (unhide HB1).size; omega)
  have HW2 := hide hw
  clear hw hk hf HC2
  obtain ⟨R, hR⟩ : ∃ R, R = recD s := ⟨_, rfl⟩
  have HWR : Hid (IsWriter W2 w.heap.size v2 R) := hide (by rw [hR]; exact unhide HW2)
  have HRR := hide hR
  clear hR
  have HBy := hide (Bytes_any (unhide HWR))
  go_wp2_with fail
  refine (unhide HBy).mono ?_
  rintro e Wz ⟨rfl, hO, hb⟩
  have HO := hide (hO.mono (unhide HB2).size)
  have HB := hide ((unhide HB2).trans (hb.mono (unhide HB2).size))
  clear hO hb HBy
  go_wp2
  go_ret
  exact ⟨W2.heap.size, by rw [← unhide HRR]; rfl, by rw [← unhide HRR]; exact unhide HO, unhide HB⟩
end Go.Proofs.Ytkcnkfhdbjiggaa

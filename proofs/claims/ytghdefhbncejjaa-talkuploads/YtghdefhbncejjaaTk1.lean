/-
  Frames of talk: their bytes, plainly; the contracts of talk.sumOf, closed, Pack and Told. Conditions: lengths fit.
-/
import Derived.Test.YtghdefhbncejjaaWOps
import Derived.Test.YtghdefhbncejjaaSum
import Derived.Test.YtghdefhbncejjaaNext
import Derived.Test.YtghdefhbncejjaaTake
import Derived.Test.YtghdefhbncejjaaBx1
import Derived.Deep.Cut
namespace Go.Proofs.Ytghdefhbncejjaa
open Go.RowKit

/-- Bytes, and their sum behind them. -/
def tsum (L : List UInt8) : List UInt8 := L ++ be (sumOf L : Int) 4
/-- A frame: what it begins with, how many bytes, these, the sum. -/
def frT (l m : List UInt8) : List UInt8 := tsum (l ++ be (m.length : Int) 1 ++ m)
theorem be_s32 (C : Nat) : be (s32 C) 4 = be (C : Int) 4 := by
  unfold be
  apply List.map_congr_left
  intro i hi
  have hi4 : i < 4 := by simpa using hi
  unfold byteOf s32
  congr 2
  have hc : i = 0 ∨ i = 1 ∨ i = 2 ∨ i = 3 := by omega
  rcases hc with rfl | rfl | rfl | rfl <;> simp <;> split <;> omega
theorem tsum_len (L : List UInt8) : (tsum L).length = L.length + 4 := by unfold tsum; rw [List.length_append, be_length]
theorem frT_len (l m : List UInt8) : (frT l m).length = l.length + 1 + m.length + 4 := by unfold frT; rw [tsum_len]; simp [be_length]; omega
/-- What a request's and an answer's frame begin with. -/
def rqH (c n : Int) : List UInt8 := be 80 1 ++ be c 1 ++ be n 2
def anH (s : Int) : List UInt8 := be 112 1 ++ be s 2
def rqE (c n : Int) (m : List UInt8) : Int := if c < 0 ∨ 255 < c then 5 else if n < 0 ∨ 65535 < n then 5 else if 255 < m.length then 4 else 0
def rqL (c n : Int) (m : List UInt8) : List UInt8 := if rqE c n m = 0 then frT (rqH c n) m else []
def anE (s : Int) (m : List UInt8) : Int := if s < 0 ∨ 65535 < s then 5 else if 255 < m.length then 4 else 0
def anL (s : Int) (m : List UInt8) : List UInt8 := if anE s m = 0 then frT (anH s) m else []
theorem rqH_len (c n : Int) : (rqH c n).length = 4 := by simp [rqH, be_length]
theorem anH_len (s : Int) : (anH s).length = 3 := by simp [anH, be_length]

theorem srcT {w : World} {ao : Option Addr} {c : Nat} {l : List UInt8} (h : BAt w ao l) (hn : ao = none → l = [] ∧ c = 0) : SrcB w (.slice ao l.length c) l := by
  cases ao with
  | none =>
    obtain ⟨h1, h2⟩ := hn rfl
    subst h1 h2
    exact Or.inl ⟨rfl, rfl⟩
  | some x => exact Or.inr ⟨x, c, rfl, h⟩
theorem wE_ok {L : List UInt8} {n : Int} {s : Nat} (hL : L.length ≤ 1000) (hs : s ≤ 4) (hn : ¬ (n < loN s ∨ hiN s < n)) : wE L n s = 0 ∧ wL L n s = L ++ be n s := by
  have h1 : wE L n s = 0 := by unfold wE; rw [if_neg hn, if_neg (by omega)]
  exact ⟨h1, by unfold wL; rw [if_pos h1]⟩
theorem wE_no {L : List UInt8} {n : Int} {s : Nat} (hn : n < loN s ∨ hiN s < n) : wE L n s = 5 ∧ wL L n s = L := by
  have h1 : wE L n s = 5 := by unfold wE; rw [if_pos hn]
  exact ⟨h1, by unfold wL; rw [h1]; rfl⟩
theorem jE_ok {L m : List UInt8} (hL : L.length ≤ 1000) (hm : m.length ≤ 1000) : jE L m = 0 ∧ jL L m = L ++ m := by
  have h1 : jE L m = 0 := by unfold jE; rw [if_neg (by omega)]
  exact ⟨h1, by unfold jL; rw [if_pos h1]⟩
theorem below_wT {B p : Nat} {w0 w w' : World} {v : Value} (hb : Below B w0 w) (hB : B ≤ w.heap.size) (hp : B ≤ p) (hv : ∀ k, v.ownBlock = some k → B ≤ k) (hk : Kept (WT p v) w w') : Below B w0 w' :=
  hk.below hb hB (fun k h => by
    rcases h with h | h
    · omega
    · exact hv k h)

theorem sumT_any (ao : Option Addr) (cap : Nat) (l : List UInt8) (w : World) (h : BAt w ao l) (hl : l.length ≤ 140737488355328) :
    Calls Try.prog 42 #[.slice ao l.length cap] w fun e w' => e = .returned (.int .i64 (s32 (sumOf l))) ∧ Below w.heap.size w w' := by
  have HS := hide (Sum_any ao cap l w h hl)
  obtain ⟨C, hC⟩ : ∃ C, C = sumOf l := ⟨_, rfl⟩
  have hlt : C < 4294967296 := by rw [hC]; exact sumOf_lt l
  rw [← hC] at HS ⊢
  have HW := hide (s32_wrap C hlt)
  clear h hl hC
  go_enter Try.func42, Try.ntmps42
  go_wp2_with (go_at_call 49; refine (unhide HS).mono ?_; rintro e W ⟨rfl, hb⟩)
  go_ret
  exact ⟨ret_u32 (unhide HW), hb⟩

set_option maxHeartbeats 2000000 in
theorem closed_any {w0 w : World} {p : Nat} {v : Value} {l : List UInt8} (h : IsWriter w p v l) (hb : Below w0.heap.size w0 w) (hp : w0.heap.size ≤ p) (hv : ∀ k, v.ownBlock = some k → w0.heap.size ≤ k) (hl : l.length ≤ 5)
    (ao : Option Addr) (c : Nat) (m : List UInt8) (hd : BAt w0 ao m) (hn : ao = none → m = [] ∧ c = 0) (hm : m.length ≤ 255) :
    Calls Try.prog 31 #[.pointer (some ⟨p, 0, none⟩), .slice ao m.length c] w fun e w' => ∃ v, e = .returned (.tuple #[v, .int .i64 0]) ∧ OwnB w' w0.heap.size v (frT l m) ∧ Below w0.heap.size w0 w' := by
  have HW0 := hide h
  have HB0 := hide hb
  have HV0 := hide hv
  have HD := hide hd
  have h6 : (l ++ be (m.length : Int) 1).length ≤ 1000 := by rw [List.length_append, be_length]; omega
  have h7 : (l ++ be (m.length : Int) 1 ++ m).length ≤ 1000 := by rw [List.length_append, List.length_append, be_length]; omega
  have hr : ¬ ((m.length : Int) < loN 1 ∨ hiN 1 < (m.length : Int)) := by unfold loN hiN; simp; omega
  have hlen : (m.length : Int) ≤ 255 := by omega
  clear h hb hv hd
  go_enter Try.func31, Try.ntmps31

  have HC1 := hide (wByte_u (unhide HW0) (m.length : Int))
  rw [(wE_ok (by omega) (by omega) hr).1, (wE_ok (by omega) (by omega) hr).2] at HC1
  go_wp2_with fail
  refine (unhide HC1).mono ?_
  rintro e W1 ⟨rfl, v1, hw, hk, hf⟩
  have HB1 := hide (below_wT (unhide HB0) (unhide HB0).size hp (unhide HV0) hk)
  have HV1 : Hid (∀ k, v1.ownBlock = some k → w0.heap.size ≤ k) := hide (fun k e => by
    rcases hf k e with h | h
    · exact unhide HV0 k h
    · have := (unhide HB0).size; omega)
  have HW1 := hide hw
  clear hw hk hf HC1

  have HC2 := hide (Put_u (unhide HW1) (.slice ao m.length c) m (srcT ((unhide HD).below' (unhide HB1)) hn) (by omega))
  rw [(jE_ok h6 (by omega)).1, (jE_ok h6 (by omega)).2] at HC2
  go_wp2_with fail
  refine (unhide HC2).mono ?_
  rintro e W2 ⟨rfl, v2, hw, hk, hf⟩
  have HB2 := hide (below_wT (unhide HB1) (unhide HB1).size hp (unhide HV1) hk)
  have HV2 : Hid (∀ k, v2.ownBlock = some k → w0.heap.size ≤ k) := hide (fun k e => by
    rcases hf k e with h | h
    · exact unhide HV1 k h
    · have := (unhide HB1).size; omega)
  have HW2 := hide hw
  clear hw hk hf HC2

  obtain ⟨X, hX⟩ : ∃ X, X = l ++ be (m.length : Int) 1 ++ m := ⟨_, rfl⟩
  rw [← hX] at h7 HW2
  have HX := hide hX
  clear hX
  have HBy := hide (Bytes_any (unhide HW2))
  go_wp2_with fail
  refine (unhide HBy).mono ?_
  rintro e W3 ⟨rfl, hO, hb3⟩
  have HB3 := hide ((unhide HB2).trans (hb3.mono (unhide HB2).size))
  have HW3 := hide ((unhide HW2).below hb3)
  obtain ⟨a3, c3, e3, hb3'⟩ := hO.at
  injection e3 with e3 e3' e3''
  subst e3 e3''
  have HS := hide (sumT_any (some ⟨W2.heap.size, 0, none⟩) X.length X W3 hb3' (by omega))
  clear hO hb3 hb3' HBy e3'
  go_wp2_with fail
  refine (unhide HS).mono ?_
  rintro e W4 ⟨rfl, hb4⟩
  have HB4 := hide ((unhide HB3).trans (hb4.mono (unhide HB3).size))
  have HW4 := hide ((unhide HW3).below hb4)
  have hss := sumOf_lt X
  have HBe := hide (be_s32 (sumOf X))
  have hr4 : ¬ (s32 (sumOf X) < loN 4 ∨ hiN 4 < s32 (sumOf X)) := by unfold loN hiN s32; simp; split <;> omega
  obtain ⟨Y, hY⟩ : ∃ Y, Y = s32 (sumOf X) := ⟨_, rfl⟩
  rw [← hY] at HBe hr4 ⊢
  have HY := hide hY
  have HV4 := HV2
  clear hY hb4 HS

  have HC5 := hide (wLong_u (unhide HW4) Y)
  rw [(wE_ok h7 (by omega) hr4).1, (wE_ok h7 (by omega) hr4).2, unhide HBe] at HC5
  go_wp2_with fail
  refine (unhide HC5).mono ?_
  rintro e W5 ⟨rfl, v5, hw, hk, hf⟩
  have HB5 := hide (below_wT (unhide HB4) (unhide HB4).size hp (unhide HV4) hk)
  have HV5 : Hid (∀ k, v5.ownBlock = some k → w0.heap.size ≤ k) := hide (fun k e => by
    rcases hf k e with h | h
    · exact unhide HV4 k h
    · have := (unhide HB4).size; omega)
  have HW5 := hide hw
  clear hw hk hf HC5

  obtain ⟨Z, hZ⟩ : ∃ Z, Z = X ++ be (sumOf X : Int) 4 := ⟨_, rfl⟩
  rw [← hZ] at HW5
  have HZ := hide hZ
  clear hZ
  have HBz := hide (Bytes_any (unhide HW5))
  go_wp2_with fail
  refine (unhide HBz).mono ?_
  rintro e W6 ⟨rfl, hO, hb6⟩
  have HB6 := hide ((unhide HB5).trans (hb6.mono (unhide HB5).size))
  have HO := hide (hO.mono (unhide HB5).size)
  clear hO hb6 HBz
  go_wp2
  go_ret2
  refine ⟨.slice (some ⟨W5.heap.size, 0, none⟩) Z.length Z.length, rfl, ?_, unhide HB6⟩
  have := unhide HO
  unfold frT tsum
  rw [← unhide HX, ← unhide HZ]
  exact this
theorem closed_no {w : World} (p : Value) (ao : Option Addr) (c : Nat) (m : List UInt8) (hm : 255 < m.length) :
    Calls Try.prog 31 #[p, .slice ao m.length c] w fun e w' => e = .returned (.tuple #[.slice none 0 0, .int .i64 4]) ∧ w' = w := by
  have h1 : (255 : Int) < (m.length : Int) := by omega
  go_enter Try.func31, Try.ntmps31
  go_wp2
  go_ret2
  exact ⟨rfl, rfl⟩
theorem ret_eT {v : Value} {a b : Int} (h : a = b) : Ending.returned (.tuple #[v, .int .i64 a]) = .returned (.tuple #[v, .int .i64 b]) := by rw [h]
theorem own_eT {w : World} {B : Nat} {v : Value} {L L' : List UInt8} (h : L' = L) (o : OwnB w B v L) : OwnB w B v L' := by rw [h]; exact o
/-- What Pack and Told answer: a row of bytes of its own, and an error. -/
def PkPost (w : World) (code : Int) (L : List UInt8) (e : Ending) (w' : World) : Prop := ∃ v, e = .returned (.tuple #[v, .int .i64 code]) ∧ OwnB w' w.heap.size v L ∧ Below w.heap.size w w'

set_option maxHeartbeats 4000000 in
theorem Pack_any (cm nu : Int) (ao : Option Addr) (c : Nat) (m : List UInt8) (w : World) (hd : BAt w ao m) (hn : ao = none → m = [] ∧ c = 0) (hm : m.length ≤ 140737488355328) :
    Calls Try.prog 9 #[.agg #[.int .i64 cm, .int .i64 nu, .slice ao m.length c]] w (PkPost w (rqE cm nu m) (rqL cm nu m)) := by
  have HBX : Hid (Bx (w.alloc (.cells #[.int .i64 cm, .int .i64 nu, .slice ao m.length c] 24)) w.heap.size 24 #[.int .i64 cm, .int .i64 nu, .slice ao m.length c]) := hide (heap_alloc_new w _)
  have HA : Hid (Below w.heap.size w (w.alloc (.cells #[.int .i64 cm, .int .i64 nu, .slice ao m.length c] 24))) := hide ((Below.refl _ w).alloc (Nat.le_refl _) _)
  have HD := hide (hd.below' (unhide HA))
  clear hd
  go_enter Try.func9, Try.ntmps9
  go_upto_region 1 with fail
  generalize (w.alloc (.cells #[.int .i64 cm, .int .i64 nu, .slice ao m.length c] 24)) = w0 at HBX HA HD ⊢
  have HN := hide (New_any w0)
  go_wp2_with fail
  refine (unhide HN).mono ?_
  rintro e W0 ⟨rfl, hw0, hb0⟩
  have HB0 := hide hb0
  have HW0 := hide hw0
  have HV0 : Hid (∀ k, (Value.slice none 0 0).ownBlock = some k → w0.heap.size ≤ k) := hide (fun k e => by cases e)
  clear hb0 hw0 HN
  have HC1 := hide (wByte_u (unhide HW0) 80)
  rw [(wE_ok (L := []) (n := 80) (s := 1) (by simp) (by omega) (by unfold loN hiN; simp)).1, (wE_ok (L := []) (n := 80) (s := 1) (by simp) (by omega) (by unfold loN hiN; simp)).2] at HC1
  go_wp2_with fail
  refine (unhide HC1).mono ?_
  rintro e W1 ⟨rfl, v1, hw, hk, hf⟩
  have HB1 := hide (below_wT (unhide HB0) (unhide HB0).size (Nat.le_refl _) (unhide HV0) hk)
  have HV1 : Hid (∀ k, v1.ownBlock = some k → w0.heap.size ≤ k) := hide (fun k e => by
    rcases hf k e with h | h
    · exact unhide HV0 k h
    · have := (unhide HB0).size; omega)
  have HW1 := hide hw
  clear hw hk hf HC1
  have k1 := ((unhide HBX).below (unhide HB1)).c 0 rfl
  by_cases hr1 : cm < loN 1 ∨ hiN 1 < cm
  · have hE : rqE cm nu m = 5 := by
      have hr := hr1
      simp [loN, hiN] at hr
      unfold rqE
      rw [if_pos hr]
    have hL : rqL cm nu m = [] := by unfold rqL; rw [hE]; rfl
    have HE := hide hE
    have HL := hide hL
    have HC := hide (wByte_u (unhide HW1) cm)
    rw [(wE_no hr1).1, (wE_no hr1).2] at HC
    clear hE hL hr1
    go_wp2_with fail
    refine (unhide HC).mono ?_
    rintro e Wz ⟨rfl, vz, hw, hk, hf⟩
    have HBz := hide (below_wT (unhide HB1) (unhide HB1).size (Nat.le_refl _) (unhide HV1) hk)
    clear hw hk hf HC
    go_wp2
    go_ret2
    exact ⟨.slice none 0 0, ret_eT (unhide HE).symm, own_eT (unhide HL) (World.ownsRow_nil _ _ _ _), (unhide HA).trans ((unhide HBz).mono (unhide HA).size)⟩
  have hq1 : ¬ (cm < 0 ∨ 255 < cm) := by
    have hr := hr1
    simp [loN, hiN] at hr
    omega
  have HC2 := hide (wByte_u (unhide HW1) cm)
  rw [(wE_ok (L := [] ++ be 80 1) (n := cm) (s := 1) (by simp [be_length]) (by omega) hr1).1, (wE_ok (L := [] ++ be 80 1) (n := cm) (s := 1) (by simp [be_length]) (by omega) hr1).2] at HC2
  go_wp2_with fail
  refine (unhide HC2).mono ?_
  rintro e W2 ⟨rfl, v2, hw, hk, hf⟩
  have HB2 := hide (below_wT (unhide HB1) (unhide HB1).size (Nat.le_refl _) (unhide HV1) hk)
  have HV2 : Hid (∀ k, v2.ownBlock = some k → w0.heap.size ≤ k) := hide (fun k e => by
    rcases hf k e with h | h
    · exact unhide HV1 k h
    · have := (unhide HB1).size; omega)
  have HW2 := hide hw
  clear hw hk hf HC2
  clear k1 hr1
  have k2 := ((unhide HBX).below (unhide HB2)).c 1 rfl
  by_cases hr2 : nu < loN 2 ∨ hiN 2 < nu
  · have hE : rqE cm nu m = 5 := by
      have hr := hr2
      simp [loN, hiN] at hr
      unfold rqE
      rw [if_neg hq1, if_pos hr]
    have hL : rqL cm nu m = [] := by unfold rqL; rw [hE]; rfl
    have HE := hide hE
    have HL := hide hL
    have HC := hide (wWord_u (unhide HW2) nu)
    rw [(wE_no hr2).1, (wE_no hr2).2] at HC
    clear hE hL hr2
    go_wp2_with fail
    refine (unhide HC).mono ?_
    rintro e Wz ⟨rfl, vz, hw, hk, hf⟩
    have HBz := hide (below_wT (unhide HB2) (unhide HB2).size (Nat.le_refl _) (unhide HV2) hk)
    clear hw hk hf HC
    go_wp2
    go_ret2
    exact ⟨.slice none 0 0, ret_eT (unhide HE).symm, own_eT (unhide HL) (World.ownsRow_nil _ _ _ _), (unhide HA).trans ((unhide HBz).mono (unhide HA).size)⟩
  have hq2 : ¬ (nu < 0 ∨ 65535 < nu) := by
    have hr := hr2
    simp [loN, hiN] at hr
    omega
  have HC3 := hide (wWord_u (unhide HW2) nu)
  rw [(wE_ok (L := [] ++ be 80 1 ++ be cm 1) (n := nu) (s := 2) (by simp [be_length]) (by omega) hr2).1, (wE_ok (L := [] ++ be 80 1 ++ be cm 1) (n := nu) (s := 2) (by simp [be_length]) (by omega) hr2).2] at HC3
  go_wp2_with fail
  refine (unhide HC3).mono ?_
  rintro e W3 ⟨rfl, v3, hw, hk, hf⟩
  have HB3 := hide (below_wT (unhide HB2) (unhide HB2).size (Nat.le_refl _) (unhide HV2) hk)
  have HV3 : Hid (∀ k, v3.ownBlock = some k → w0.heap.size ≤ k) := hide (fun k e => by
    rcases hf k e with h | h
    · exact unhide HV2 k h
    · have := (unhide HB2).size; omega)
  have HW3 := hide hw
  clear hw hk hf HC3
  clear k2 hr2
  have kk := ((unhide HBX).below (unhide HB3)).c 2 rfl
  by_cases h255 : 255 < m.length
  · have hE : rqE cm nu m = 4 := by
      unfold rqE
      rw [if_neg hq1, if_neg hq2, if_pos h255]
    have hL : rqL cm nu m = [] := by unfold rqL; rw [hE]; rfl
    have HE := hide hE
    have HL := hide hL
    have HC := hide (closed_no (w := W3) (.pointer (some ⟨w0.heap.size, 0, none⟩)) ao c m h255)
    have HBz := HB3
    clear hE hL h255
    go_wp2_with fail
    refine (unhide HC).mono ?_
    rintro e Wz ⟨rfl, rfl⟩
    go_wp2
    go_ret2
    exact ⟨.slice none 0 0, ret_eT (unhide HE).symm, own_eT (unhide HL) (World.ownsRow_nil _ _ _ _), (unhide HA).trans ((unhide HBz).mono (unhide HA).size)⟩
  · have hE : rqE cm nu m = 0 := by
      unfold rqE
      rw [if_neg hq1, if_neg hq2, if_neg h255]
    have hL : rqL cm nu m = frT (rqH cm nu) m := by unfold rqL; rw [if_pos hE]
    have HE := hide hE
    have HL := hide hL
    have HC := hide (closed_any (unhide HW3) (unhide HB3) (Nat.le_refl _) (unhide HV3) (by simp [be_length]) ao c m (unhide HD) hn (by omega))
    rw [show [] ++ be 80 1 ++ be cm 1 ++ be nu 2 = rqH cm nu from rfl] at HC
    clear hE hL h255
    go_wp2_with fail
    refine (unhide HC).mono ?_
    rintro e Wz ⟨vz, rfl, hO, hbz⟩
    have HO := hide (hO.mono (unhide HA).size)
    have HBz := hide hbz
    clear hO hbz HC
    go_wp2
    go_ret2
    exact ⟨vz, ret_eT (unhide HE).symm, own_eT (unhide HL) (unhide HO), (unhide HA).trans ((unhide HBz).mono (unhide HA).size)⟩

set_option maxHeartbeats 4000000 in
theorem Told_any (st : Int) (ao : Option Addr) (c : Nat) (m : List UInt8) (w : World) (hd : BAt w ao m) (hn : ao = none → m = [] ∧ c = 0) (hm : m.length ≤ 140737488355328) :
    Calls Try.prog 13 #[.agg #[.int .i64 st, .slice ao m.length c]] w (PkPost w (anE st m) (anL st m)) := by
  have HBX : Hid (Bx (w.alloc (.cells #[.int .i64 st, .slice ao m.length c] 26)) w.heap.size 26 #[.int .i64 st, .slice ao m.length c]) := hide (heap_alloc_new w _)
  have HA : Hid (Below w.heap.size w (w.alloc (.cells #[.int .i64 st, .slice ao m.length c] 26))) := hide ((Below.refl _ w).alloc (Nat.le_refl _) _)
  have HD := hide (hd.below' (unhide HA))
  clear hd
  go_enter Try.func13, Try.ntmps13
  go_upto_region 1 with fail
  generalize (w.alloc (.cells #[.int .i64 st, .slice ao m.length c] 26)) = w0 at HBX HA HD ⊢
  have HN := hide (New_any w0)
  go_wp2_with fail
  refine (unhide HN).mono ?_
  rintro e W0 ⟨rfl, hw0, hb0⟩
  have HB0 := hide hb0
  have HW0 := hide hw0
  have HV0 : Hid (∀ k, (Value.slice none 0 0).ownBlock = some k → w0.heap.size ≤ k) := hide (fun k e => by cases e)
  clear hb0 hw0 HN
  have HC1 := hide (wByte_u (unhide HW0) 112)
  rw [(wE_ok (L := []) (n := 112) (s := 1) (by simp) (by omega) (by unfold loN hiN; simp)).1, (wE_ok (L := []) (n := 112) (s := 1) (by simp) (by omega) (by unfold loN hiN; simp)).2] at HC1
  go_wp2_with fail
  refine (unhide HC1).mono ?_
  rintro e W1 ⟨rfl, v1, hw, hk, hf⟩
  have HB1 := hide (below_wT (unhide HB0) (unhide HB0).size (Nat.le_refl _) (unhide HV0) hk)
  have HV1 : Hid (∀ k, v1.ownBlock = some k → w0.heap.size ≤ k) := hide (fun k e => by
    rcases hf k e with h | h
    · exact unhide HV0 k h
    · have := (unhide HB0).size; omega)
  have HW1 := hide hw
  clear hw hk hf HC1
  have k1 := ((unhide HBX).below (unhide HB1)).c 0 rfl
  by_cases hr1 : st < loN 2 ∨ hiN 2 < st
  · have hE : anE st m = 5 := by
      have hr := hr1
      simp [loN, hiN] at hr
      unfold anE
      rw [if_pos hr]
    have hL : anL st m = [] := by unfold anL; rw [hE]; rfl
    have HE := hide hE
    have HL := hide hL
    have HC := hide (wWord_u (unhide HW1) st)
    rw [(wE_no hr1).1, (wE_no hr1).2] at HC
    clear hE hL hr1
    go_wp2_with fail
    refine (unhide HC).mono ?_
    rintro e Wz ⟨rfl, vz, hw, hk, hf⟩
    have HBz := hide (below_wT (unhide HB1) (unhide HB1).size (Nat.le_refl _) (unhide HV1) hk)
    clear hw hk hf HC
    go_wp2
    go_ret2
    exact ⟨.slice none 0 0, ret_eT (unhide HE).symm, own_eT (unhide HL) (World.ownsRow_nil _ _ _ _), (unhide HA).trans ((unhide HBz).mono (unhide HA).size)⟩
  have hq1 : ¬ (st < 0 ∨ 65535 < st) := by
    have hr := hr1
    simp [loN, hiN] at hr
    omega
  have HC2 := hide (wWord_u (unhide HW1) st)
  rw [(wE_ok (L := [] ++ be 112 1) (n := st) (s := 2) (by simp [be_length]) (by omega) hr1).1, (wE_ok (L := [] ++ be 112 1) (n := st) (s := 2) (by simp [be_length]) (by omega) hr1).2] at HC2
  go_wp2_with fail
  refine (unhide HC2).mono ?_
  rintro e W2 ⟨rfl, v2, hw, hk, hf⟩
  have HB2 := hide (below_wT (unhide HB1) (unhide HB1).size (Nat.le_refl _) (unhide HV1) hk)
  have HV2 : Hid (∀ k, v2.ownBlock = some k → w0.heap.size ≤ k) := hide (fun k e => by
    rcases hf k e with h | h
    · exact unhide HV1 k h
    · have := (unhide HB1).size; omega)
  have HW2 := hide hw
  clear hw hk hf HC2
  clear k1 hr1
  have kk := ((unhide HBX).below (unhide HB2)).c 1 rfl
  by_cases h255 : 255 < m.length
  · have hE : anE st m = 4 := by
      unfold anE
      rw [if_neg hq1, if_pos h255]
    have hL : anL st m = [] := by unfold anL; rw [hE]; rfl
    have HE := hide hE
    have HL := hide hL
    have HC := hide (closed_no (w := W2) (.pointer (some ⟨w0.heap.size, 0, none⟩)) ao c m h255)
    have HBz := HB2
    clear hE hL h255
    go_wp2_with fail
    refine (unhide HC).mono ?_
    rintro e Wz ⟨rfl, rfl⟩
    go_wp2
    go_ret2
    exact ⟨.slice none 0 0, ret_eT (unhide HE).symm, own_eT (unhide HL) (World.ownsRow_nil _ _ _ _), (unhide HA).trans ((unhide HBz).mono (unhide HA).size)⟩
  · have hE : anE st m = 0 := by
      unfold anE
      rw [if_neg hq1, if_neg h255]
    have hL : anL st m = frT (anH st) m := by unfold anL; rw [if_pos hE]
    have HE := hide hE
    have HL := hide hL
    have HC := hide (closed_any (unhide HW2) (unhide HB2) (Nat.le_refl _) (unhide HV2) (by simp [be_length]) ao c m (unhide HD) hn (by omega))
    rw [show [] ++ be 112 1 ++ be st 2 = anH st from rfl] at HC
    clear hE hL h255
    go_wp2_with fail
    refine (unhide HC).mono ?_
    rintro e Wz ⟨vz, rfl, hO, hbz⟩
    have HO := hide (hO.mono (unhide HA).size)
    have HBz := hide hbz
    clear hO hbz HC
    go_wp2
    go_ret2
    exact ⟨vz, ret_eT (unhide HE).symm, own_eT (unhide HL) (unhide HO), (unhide HA).trans ((unhide HBz).mono (unhide HA).size)⟩

end Go.Proofs.Ytghdefhbncejjaa

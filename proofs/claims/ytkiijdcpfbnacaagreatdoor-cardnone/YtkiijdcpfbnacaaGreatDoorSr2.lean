/-
  Contracts of the store's search: where a name stands among the entries, and whether it does. Nothing that lay is turned.
-/
import Derived.Test.YtkiijdcpfbnacaaGreatDoorSr1
import Derived.Test.YtkiijdcpfbnacaaGreatDoorLayCmp
import Derived.Shelf.Small.Strs
import Derived.Deep.LoopGhost
namespace Go.Proofs.YtkiijdcpfbnacaaGreatDoor
open Go.RowKit
set_option maxRecDepth 20000

theorem Compare_anyS (a b : ByteArray) (w : World) : Calls Tryz.prog 148 #[.string a, .string b] w fun e w' => e = .returned (.int .i64 (cmS a b)) ∧ w' = w := Any.strings_Compare Tryz.laysCmp a b w
theorem find1_anyS (a : ByteArray) (x y : Int) (s : ByteArray) (w : World) : Calls Tryz.prog 147 #[.agg #[.string a, .int .i64 x, .int .i64 y], .string s] w fun e w' => e = .returned (.int .i64 (cmS a s)) ∧ Below w.heap.size w w' := by
  have HC := hide (Compare_anyS a s)
  go_enter Tryz.func147, Tryz.ntmps147
  go_wp2_with (go_at_call 148; refine (unhide HC _).mono ?_; rintro e W ⟨rfl, rfl⟩)
  go_ret
  exact ⟨rfl, (Below.refl _ _).alloc (Nat.le_refl _) _⟩
def kNm (K : List Ke) : List ByteArray := K.map Ke.nm
theorem kNm_get {K : List Ke} {i : Nat} {x : Ke} (h : K[i]? = some x) : (kNm K)[i]? = some x.nm := by unfold kNm; rw [List.getElem?_map, h]; rfl
theorem kNm_len (K : List Ke) : (kNm K).length = K.length := List.length_map ..
theorem ownk_below {w w' : World} {B : Nat} {v : Value} {K : List Ke} (h : OwnK w B v K) (hb : Below w.heap.size w w') : OwnK w' B v K := h.keep (Kept.of_below hb (fun _ => False)) (fun _ _ h => h)
set_option maxHeartbeats 4000000 in
theorem search_anyS (B : Nat) (a : Option Addr) (cap : Nat) (K : List Ke) (s : ByteArray) (w : World) (H : OwnK w B (.slice a K.length cap) K) (hok : Asc (kNm K)) (hlen : K.length ≤ 4096) :
    Calls Tryz.prog 146 #[.slice a K.length cap, .string s, .func (.func 147) #[] #[]] w fun e w' => e = .returned (.tuple #[.int .i64 ((posN (kNm K) s : Nat) : Int), .bool (hasN (kNm K) s)]) ∧ Below w.heap.size w w' := by
  have HH := hide H
  have HASC := hide hok
  clear H hok
  go_enter Tryz.func146, Tryz.ntmps146
  go_wp2_with fail
  go_loopg [9, 10] K.length (fun kx s9 s10 wr => ∃ lo hi : Nat, s9 = .int .i64 lo ∧ s10 = .int .i64 hi ∧ lo ≤ hi ∧ hi ≤ K.length ∧ hi - lo ≤ kx ∧ Hid (Below w.heap.size w wr) ∧ Hid ((∀ t x, t < lo → (kNm K)[t]? = some x → ltS x s = true) ∧ (∀ t x, hi ≤ t → (kNm K)[t]? = some x → ltS x s = false)))
  case atStart => exact ⟨0, K.length, rfl, rfl, Nat.zero_le _, Nat.le_refl _, by omega, hide (Below.refl _ _), hide ⟨fun t o ht => absurd ht (Nat.not_lt_zero _), fun t o h1 h2 => by have := (List.getElem?_eq_some_iff.1 h2).1; rw [kNm_len] at this; omega⟩⟩
  case round =>
    obtain ⟨lo, hi, rfl, rfl, hlh, hin, hg, HB, HI⟩ := hrel
    by_cases hlt : lo < hi
    · have hm : (lo + hi) / 2 < K.length := by omega
      obtain ⟨o, HO⟩ : ∃ o, Hid (K[(lo + hi) / 2]? = some o) := ⟨_, hide (List.getElem?_eq_getElem hm)⟩
      obtain ⟨ao', cap', e, _, hat⟩ := (ownk_below (unhide HH) (unhide HB)).at
      injection e with e1 _ e2
      subst e1
      clear e2
      obtain ⟨b, rfl, c0, c1, c2⟩ := hat _ _ (unhide HO)
      clear hat
      have HF := hide (find1_anyS o.nm (o.fr : Int) (o.to : Int) s wr)
      by_cases hyx : ltS o.nm s = true
      · have hc : cmS o.nm s < 0 := cm_lt.2 hyx
        obtain ⟨q, HQ⟩ : ∃ q, Hid (cmS o.nm s = q) := ⟨_, hide rfl⟩
        rw [unhide HQ] at HF hc
        have HY := hide hyx
        clear hyx
        go_wp2_with (go_at_call 147; refine (unhide HF).mono ?_; rintro e w' ⟨rfl, hb⟩)
        have HB2 := hide ((unhide HB).trans (hb.mono (unhide HB).size))
        clear hb
        go_wp2_with fail
        go_roundg (hi - ((lo + hi) / 2 + 1))
        case measure => omega
        case rel =>
          refine ⟨(lo + hi) / 2 + 1, hi, by rw [show ((lo : Int) + (hi : Int)) / 2 + 1 = (((lo + hi) / 2 + 1 : Nat) : Int) by omega], rfl, by omega, hin, Nat.le_refl _, HB2, hide ⟨fun t x ht hx => ?_, (unhide HI).2⟩⟩
          cases hx2 : ltS x s
          · have := asc_ge (unhide HASC) hx hx2 (kNm_get (unhide HO)) (by omega)
            rw [unhide HY] at this
            cases this
          · rfl
      · have hc : ¬ cmS o.nm s < 0 := fun h => hyx (cm_lt.1 h)
        obtain ⟨q, HQ⟩ : ∃ q, Hid (cmS o.nm s = q) := ⟨_, hide rfl⟩
        rw [unhide HQ] at HF hc
        have HY : Hid (ltS o.nm s = false) := hide (by simpa using hyx)
        clear hyx
        go_wp2_with (go_at_call 147; refine (unhide HF).mono ?_; rintro e w' ⟨rfl, hb⟩)
        have HB2 := hide ((unhide HB).trans (hb.mono (unhide HB).size))
        clear hb
        go_wp2_with fail
        go_roundg ((lo + hi) / 2 - lo)
        case measure => omega
        case rel =>
          refine ⟨lo, (lo + hi) / 2, rfl, by rw [show ((lo : Int) + (hi : Int)) / 2 = (((lo + hi) / 2 : Nat) : Int) by omega], by omega, by omega, Nat.le_refl _, HB2, hide ⟨(unhide HI).1, fun t x ht hx => asc_ge (unhide HASC) (kNm_get (unhide HO)) (unhide HY) hx ht⟩⟩
    · obtain rfl : hi = lo := by omega
      have HP : Hid (posN (kNm K) s = hi) := hide (pos_uniq (by rw [kNm_len]; omega) (fun t x ht hx => (unhide HI).1 t x ht hx) (fun x hx => (unhide HI).2 hi x (Nat.le_refl _) hx))
      by_cases hn : hi < K.length
      · obtain ⟨o, HO⟩ : ∃ o, Hid (K[hi]? = some o) := ⟨_, hide (List.getElem?_eq_getElem hn)⟩
        obtain ⟨ao', cap', e, _, hat⟩ := (ownk_below (unhide HH) (unhide HB)).at
        injection e with e1 _ e2
        subst e1
        clear e2
        obtain ⟨b, rfl, c0, c1, c2⟩ := hat _ _ (unhide HO)
        clear hat
        have HF := hide (find1_anyS o.nm (o.fr : Int) (o.to : Int) s wr)
        have HR : Hid (hasN (kNm K) s = (cmS o.nm s == 0)) := hide (by
          unfold hasN
          rw [unhide HP, kNm_get (unhide HO)]
          by_cases he : o.nm = s
          · simp [he, cm_eq.2]
          · have : cmS o.nm s ≠ 0 := fun h => he (cm_eq.1 h)
            simp [he, this])
        obtain ⟨q, HQ⟩ : ∃ q, Hid (cmS o.nm s = q) := ⟨_, hide rfl⟩
        rw [unhide HQ] at HF HR
        go_wp2_with (go_at_call 147; refine (unhide HF).mono ?_; rintro e w' ⟨rfl, hb⟩)
        have HB2 := hide ((unhide HB).trans (hb.mono (unhide HB).size))
        clear hb
        go_wp2_with fail
        go_ret2
        exact ⟨by rw [unhide HP, unhide HR]; rfl, unhide HB2⟩
      · have HR : Hid (hasN (kNm K) s = false) := hide (by
          unfold hasN
          rw [unhide HP, List.getElem?_eq_none (by rw [kNm_len]; omega)]
          rfl)
        go_wp2_with fail
        go_ret2
        exact ⟨by rw [unhide HP, unhide HR]; rfl, unhide HB⟩
theorem find_anyS {B g : Nat} {iv kv : Value} {I : List UInt8} {K : List Ke} (s : ByteArray) (w : World) (H : IsSt w B g iv kv I K) (hok : Asc (kNm K)) (hlen : K.length ≤ 4096) :
    Calls Tryz.prog 127 #[.pointer (some ⟨g, 0, none⟩), .string s] w fun e w' => e = .returned (.tuple #[.int .i64 ((posN (kNm K) s : Nat) : Int), .bool (hasN (kNm K) s)]) ∧ Below w.heap.size w w' := by
  obtain ⟨a, cap, rfl, _⟩ := H.kep.at
  have HS := hide (search_anyS B a cap K s w H.kep hok hlen)
  have c1 := H.c1
  clear H
  go_enter Tryz.func127, Tryz.ntmps127
  go_wp2_with (go_at_call 146; refine (unhide HS).mono ?_; rintro e W ⟨rfl, hb⟩)
  go_ret2
  exact ⟨rfl, hb⟩
theorem has_anyS {B g : Nat} {iv kv : Value} {I : List UInt8} {K : List Ke} (s : ByteArray) (w : World) (H : IsSt w B g iv kv I K) (hok : Asc (kNm K)) (hlen : K.length ≤ 4096) :
    Calls Tryz.prog 144 #[.pointer (some ⟨g, 0, none⟩), .string s] w fun e w' => e = .returned (.bool (hasN (kNm K) s)) ∧ Below w.heap.size w w' := by
  have HS := hide (find_anyS s w H hok hlen)
  clear H
  go_enter Tryz.func144, Tryz.ntmps144
  go_wp2_with (go_at_call 127; refine (unhide HS).mono ?_; rintro e W ⟨rfl, hb⟩)
  go_ret
  exact ⟨rfl, hb⟩
theorem mayKeep_anyS {B g : Nat} {iv kv : Value} {I : List UInt8} {K : List Ke} (s : ByteArray) (w : World) (H : IsSt w B g iv kv I K) (hok : Asc (kNm K)) (hlen : K.length ≤ 4096) :
    Calls Tryz.prog 125 #[.pointer (some ⟨g, 0, none⟩), .string s] w fun e w' => e = .returned (.bool (hasN (kNm K) s || decide (K.length < 16))) ∧ Below w.heap.size w w' := by
  have HS := hide (has_anyS s w H hok hlen)
  have HH := hide H
  clear H
  cases hh : hasN (kNm K) s
  · rw [hh] at HS
    by_cases hk : K.length < 16
    · have i1 : ((K.length : Nat) : Int) < 16 := by omega
      rw [decide_eq_true hk]
      go_enter Tryz.func125, Tryz.ntmps125
      go_wp2_with fail
      refine (unhide HS).mono ?_
      rintro e W ⟨rfl, hb⟩
      have c1 := ((unhide HH).below hb).c1
      obtain ⟨a, cap, rfl, _⟩ := (unhide HH).kep.at
      have HB := hide hb
      clear hb HS
      go_wp2
      go_ret
      exact ⟨rfl, unhide HB⟩
    · have i1 : decide (((K.length : Nat) : Int) < 16) = false := decide_eq_false (by omega)
      rw [decide_eq_false hk]
      go_enter Tryz.func125, Tryz.ntmps125
      go_wp2_with fail
      refine (unhide HS).mono ?_
      rintro e W ⟨rfl, hb⟩
      have c1 := ((unhide HH).below hb).c1
      obtain ⟨a, cap, rfl, _⟩ := (unhide HH).kep.at
      have HB := hide hb
      clear hb HS
      go_wp2
      go_ret
      exact ⟨rfl, unhide HB⟩
  · rw [hh] at HS
    go_enter Tryz.func125, Tryz.ntmps125
    go_wp2_with fail
    refine (unhide HS).mono ?_
    rintro e W ⟨rfl, hb⟩
    have HB := hide hb
    clear hb HS
    go_wp2
    go_ret
    exact ⟨rfl, unhide HB⟩
end Go.Proofs.YtkiijdcpfbnacaaGreatDoor

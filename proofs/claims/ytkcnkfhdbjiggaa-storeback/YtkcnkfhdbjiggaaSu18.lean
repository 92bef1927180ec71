/-
  What the laws of store share: an image read again, Get and Open by what is kept alone, names held against names.
-/
import Derived.Test.YtkcnkfhdbjiggaaSu17
import Derived.Test.YtkcnkfhdbjiggaaSu13
namespace Go.Proofs.Ytkcnkfhdbjiggaa
open Go.RowKit
set_option maxRecDepth 20000

theorem Tw.zero {w : World} {B g : Nat} (h : IsSt w B g (.slice none 0 0) (.slice none 0 0) [] []) : Tw w B g (.slice none 0 0) (.slice none 0 0) (.slice none 0 0) (.slice none 0 0) [] [] [] where
  st := h
  xo := ⟨rfl, Or.inl ⟨rfl, rfl⟩⟩
  lo := ⟨rfl, Or.inl ⟨rfl, rfl⟩⟩
  rk := fun x hx => (by cases hx)
  sm := rfl
  ok := ⟨List.Pairwise.nil, by simp⟩
  en := fun x hx => (by cases hx)
  big := by simp
  s1 := fun q e => (by cases e)
  s2 := fun q e => (by cases e)
theorem Tw.keepT {w w1 : World} {B g b : Nat} {iv kv xi lv : Value} {I : List UInt8} {K : List Ke} {L : List Rk} {cs : Array Value} (h : Tw w B g iv kv xi lv I K L) (hb : Bx w b 31 cs) (hk : Kept (fun q => q = b) w w1) : Tw w1 B g iv kv xi lv I K L := by
  refine ⟨h.st.keep hk (fun (e : g = b) => ty_ne h.st.row hb (by decide) e) (fun q e (e2 : q = b) => ?_) (fun q e (e2 : q = b) => ?_), h.xo.keepBx hb hk (by decide), h.lo.keep hk (fun q e (e2 : q = b) => ?_), fun x hx => (h.rk x hx).keepBx hb hk (by decide), h.sm, h.ok, h.en, h.big, h.s1, h.s2⟩
  · obtain ⟨cur, hh⟩ := h.st.ity _ e
    exact ty_ne hh hb (by decide) e2
  · obtain ⟨cur, hh⟩ := h.st.kty _ e
    exact ty_ne hh hb (by decide) e2
  · obtain ⟨cur, hh⟩ := own_tyR h.lo e
    exact ty_ne hh hb (by decide) e2
theorem u64rem2 (n : Int) : wrap64 ((IntKind.u64.wrap n).tmod 2) = 0 ∨ wrap64 ((IntKind.u64.wrap n).tmod 2) = 1 := by
  have h0 : 0 ≤ IntKind.u64.wrap n := by simp [IntKind.wrap, IntKind.bits, IntKind.signed]; omega
  rw [Int.tmod_eq_emod_of_nonneg h0]
  rcases Int.emod_two_eq (IntKind.u64.wrap n) with h | h
  · left; rw [h]; first | rfl | simp [wrap64] | (unfold wrap64; decide)
  · right; rw [h]; first | rfl | simp [wrap64] | (unfold wrap64; decide)
theorem OwnB.nilN {w : World} {B : Nat} {ao : Option Addr} {n c : Nat} {l : List UInt8} (h : OwnB w B (.slice ao n c) l) : ao = none → l = [] ∧ c = 0 := fun e => by
  rcases h.2 with ⟨h1, h2⟩ | ⟨g, cap, cur, hv, _⟩
  · injection h1 with _ _ h1
    exact ⟨List.eq_nil_of_length_eq_zero h2, h1⟩
  · injection hv with hv _ _
    rw [e] at hv
    cases hv
theorem ImK.done {w w' : World} {B g : Nat} {iv kv : Value} {code : Int} {I R : List UInt8} {K K2 : List Ke} {e : Ending} (h : ImK I K) (h2 : code = 0 → ImK (I ++ R) K2) (hd : DoPost w B g iv kv I K code R K2 e w') :
    Kept (SA g iv kv) w w' ∧ ∃ xi' lv' v iv' kv' I' K' L', e = .returned (.tuple #[.agg #[xi', lv'], v, .bool true]) ∧ Tw w' B g iv' kv' xi' lv' I' K' L' ∧ ImK I' K' := by
  obtain ⟨hk, xi', lv', v, iv', kv', I', K', L', he, ht, hc⟩ := hd
  refine ⟨hk, xi', lv', v, iv', kv', I', K', L', he, ht, ?_⟩
  rcases hc with ⟨-, rfl, rfl, -⟩ | ⟨hc, rfl, rfl, -⟩
  · exact h
  · exact h2 hc
theorem OpenS_im {I : List UInt8} {K : List Ke} (him : ImK I K) (ao : Option Addr) (c : Nat) (w : World) (hl : BAt w ao I) (hn : ao = none → I = []) (hb : I.length ≤ 1048576) (hlc : I.length ≤ c) :
    Calls Try.prog 15 #[.slice ao I.length c] w fun e w' => ∃ g iv kv, e = .returned (.tuple #[.pointer (some ⟨g, 0, none⟩), .int .i64 0]) ∧ IsSt w' w.heap.size g iv kv I K ∧ Below w.heap.size w w' := by
  refine (OpenS_any ao c I w hl hn (by omega) hlc).mono ?_
  rintro e w' ⟨hb', ⟨-, h0⟩ | ⟨g, iv, kv, k, K', he, h0, hst, -, -, -⟩⟩
  · rw [him.op] at h0; cases h0
  · rw [him.op] at h0
    injection h0 with h0
    injection h0 with h1 h2
    subst h1 h2
    rw [List.take_length] at hst
    exact ⟨g, iv, kv, he, hst, hb'⟩
def getE (V : List (ByteArray × List UInt8)) (s : ByteArray) : Int := if nameB s = false then 6 else if hasN (V.map Prod.fst) s = false then 211 else 0
def getB (V : List (ByteArray × List UInt8)) (s : ByteArray) : List UInt8 := if nameB s = false then [] else if hasN (V.map Prod.fst) s = false then [] else ((V[posN (V.map Prod.fst) s]?).map Prod.snd).getD []
theorem GetS_pk {w : World} {B g : Nat} {iv kv : Value} {I : List UInt8} {K : List Ke} (H : IsSt w B g iv kv I K) (hI : I.length ≤ 1048576) (hok : OkK K) (he : EnK I.length K) (s : ByteArray) (hs : s.size ≤ maxLen) :
    Calls Try.prog 10 #[.pointer (some ⟨g, 0, none⟩), .string s] w fun e w' => ∃ v, e = .returned (.tuple #[v, .int .i64 (getE (pkV I K) s)]) ∧ OwnB w' w.heap.size v (getB (pkV I K) s) ∧ Below w.heap.size w w' := by
  refine (GetS_any H hI hok he s hs).mono ?_
  rintro e w' ⟨hb, ⟨rfl, h1⟩ | ⟨rfl, h1, h2⟩ | ⟨v, x, rfl, h1, h2, h3, h4⟩⟩
  · refine ⟨_, by unfold getE; rw [if_pos h1], ?_, hb⟩
    unfold getB
    rw [if_pos h1]
    exact ⟨rfl, Or.inl ⟨rfl, rfl⟩⟩
  · rw [← pkV_nm I K] at h2
    refine ⟨_, by unfold getE; rw [if_neg (by rw [h1]; simp), if_pos h2], ?_, hb⟩
    unfold getB
    rw [if_neg (by rw [h1]; simp), if_pos h2]
    exact ⟨rfl, Or.inl ⟨rfl, rfl⟩⟩
  · rw [← pkV_nm I K] at h2 h3
    refine ⟨v, by unfold getE; rw [if_neg (by rw [h1]; simp), if_neg (by rw [h2]; simp)], ?_, hb⟩
    unfold getB
    rw [if_neg (by rw [h1]; simp), if_neg (by rw [h2]; simp)]
    have : (pkV I K)[posN ((pkV I K).map Prod.fst) s]? = some (x.nm, seg I x.fr x.to) := by
      conv => lhs; unfold pkV
      rw [List.getElem?_map]
      unfold pkV at h3
      rw [h3]
      rfl
    rw [this]
    exact h4
theorem getB_len {I : List UInt8} {K : List Ke} (he : EnK I.length K) (s : ByteArray) : (getB (pkV I K) s).length ≤ 4096 := by
  unfold getB
  split
  · simp
  · split
    · simp
    · cases h : (pkV I K)[posN ((pkV I K).map Prod.fst) s]? with
      | none => simp
      | some y =>
        unfold pkV at h
        rw [List.getElem?_map] at h
        cases h2 : K[posN ((pkV I K).map Prod.fst) s]? with
        | none => unfold pkV at h2; rw [h2] at h; cases h
        | some z =>
          unfold pkV at h2
          rw [h2] at h
          injection h with h
          have h3 := he z (List.mem_of_getElem? h2)
          have h4 := seg_len (I := I) h3.1 h3.2.1
          show (y.2).length ≤ 4096
          rw [← h]
          show (seg I z.fr z.to).length ≤ 4096
          omega
set_option maxHeartbeats 1000000 in
theorem EqualT_same {B B' : Nat} {ao bo : Option Addr} {c c' n n' : Nat} {N : List ByteArray} {w : World} (hl : OwnT w B (.slice ao n c) N) (hm : OwnT w B' (.slice bo n' c') N) (h1 : N.length ≤ 4096) :
    Calls Try.prog 20 #[.slice ao n c, .slice bo n' c'] w fun e w' => e = .returned (.bool true) ∧ ∃ k, w' = w.drewN k := by
  obtain ⟨a2, d2, hv, -, hc⟩ := hl.at
  obtain ⟨b2, e2, hv', -, hc'⟩ := hm.at
  injection hv with q1 q2 q3
  injection hv' with r1 r2 r3
  subst q1 q2 q3 r1 r2 r3
  have hb : (((N.length : Nat) : Int) != ((N.length : Nat) : Int)) = false := bne_f rfl
  have HC := hide hc
  have HC' := hide hc'
  clear hl hm hc hc'
  go_enter Try.func20, Try.ntmps20
  go_wp2
  go_loopw [13] (fun i wr => ∃ k : Nat, k ≤ N.length ∧ i = .int .i64 k ∧ ∃ q, wr = w.drewN q) (fun i _ => N.length - (intOf i).toNat)
  case atStart => exact ⟨0, by omega, rfl, 0, rfl⟩
  case round =>
    obtain ⟨k, hk, rfl, q, rfl⟩ := hrel
    by_cases hlt : k < N.length
    · obtain ⟨b, rfl, c1⟩ := unhide HC k _ (List.getElem?_eq_getElem hlt)
      obtain ⟨b', rfl, c2⟩ := unhide HC' k _ (List.getElem?_eq_getElem hlt)
      generalize N[k] = x at c1 c2
      have i1 : ((k : Nat) : Int) < ((N.length : Nat) : Int) := by omega
      have hq : (x.toList == x.toList) = true := beq_self_eq_true _
      go_wp2
      go_quiet (fail)
      go_wp2
      go_roundw
      case rel => exact ⟨k + 1, by omega, by go_num, _, rfl⟩
      case measure => simp [intOf]; omega
    · go_wp2
      go_ret
      exact ⟨rfl, _, rfl⟩
end Go.Proofs.Ytkcnkfhdbjiggaa

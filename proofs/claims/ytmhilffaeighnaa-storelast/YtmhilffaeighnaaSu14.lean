/-
  What was put last under a name, whatever is done to other names: plain, no Go in it but what Get answers then.
-/
import Derived.Test.YtmhilffaeighnaaSu13
namespace Go.Proofs.Ytmhilffaeighnaa
open Go.RowKit
set_option maxRecDepth 20000

def LastIs (s : ByteArray) (m : List UInt8) (code : Int) (I : List UInt8) (K : List Ke) : Prop :=
  (code = 0 ∧ nameB s = true ∧ ∃ x ∈ K, x.nm = s ∧ seg I x.fr x.to = m) ∨ (code ≠ 0 ∧ (nameB s = false ∨ s ∉ kNm K))
theorem kNm_at {K : List Ke} {i : Nat} (h : i < K.length) : (kNm K)[i]? = some (K[i]).nm := by
  unfold kNm
  rw [List.getElem?_map, List.getElem?_eq_getElem h]
  rfl
theorem mem_rest {K : List Ke} {s : ByteArray} {x : Ke} (hx : x ∈ K) (hne : x.nm ≠ s) : x ∈ K.take (posN (kNm K) s) ∨ x ∈ K.drop (posN (kNm K) s + if hasN (kNm K) s = true then 1 else 0) := by
  obtain ⟨i, hi, rfl⟩ := List.mem_iff_getElem.1 hx
  by_cases hlt : i < posN (kNm K) s
  · exact Or.inl (List.mem_iff_getElem?.2 ⟨i, by rw [List.getElem?_take, if_pos hlt, List.getElem?_eq_getElem hi]⟩)
  · right
    have hge : posN (kNm K) s + (if hasN (kNm K) s = true then 1 else 0) ≤ i := by
      split
      · rename_i hh
        have h1 := has_at hh
        rcases Nat.lt_or_ge (posN (kNm K) s) i with h2 | h2
        · omega
        · have h3 : posN (kNm K) s = i := by omega
          rw [h3, kNm_at hi] at h1
          injection h1 with h1
          exact absurd h1 hne
      · omega
    exact List.mem_iff_getElem?.2 ⟨i - (posN (kNm K) s + (if hasN (kNm K) s = true then 1 else 0)), by rw [List.getElem?_drop, Nat.add_sub_cancel' hge, List.getElem?_eq_getElem hi]⟩
theorem LastIs.put {s : ByteArray} {m : List UInt8} {code : Int} {I : List UInt8} {K : List Ke} (h : LastIs s m code I K) (he : EnK I.length K) {s' : ByteArray} {m' : List UInt8} (hne : s' ≠ s) : LastIs s m code (I ++ recK s' m') (putK I K s' m') := by
  rcases h with ⟨h1, h2, x, hx, h3, h4⟩ | ⟨h1, h2⟩
  · refine Or.inl ⟨h1, h2, x, ?_, h3, by rw [seg_app (he x hx).2.1]; exact h4⟩
    unfold putK putN
    rcases mem_rest hx (s := s') (by rw [h3]; exact fun e => hne e.symm) with h | h
    · exact List.mem_append_left _ h
    · exact List.mem_append_right _ (List.mem_cons_of_mem _ h)
  · refine Or.inr ⟨h1, h2.imp id (fun h hm => h ?_)⟩
    unfold kNm at hm ⊢
    obtain ⟨y, hy, e⟩ := List.mem_map.1 hm
    unfold putK at hy
    rcases putN_mem hy with rfl | hy
    · exact absurd e hne
    · exact List.mem_map.2 ⟨y, hy, e⟩
theorem LastIs.drop {s : ByteArray} {m : List UInt8} {code : Int} {I : List UInt8} {K : List Ke} (h : LastIs s m code I K) (he : EnK I.length K) {s' : ByteArray} (hne : s' ≠ s) : LastIs s m code (I ++ recD s') (dropK K s') := by
  rcases h with ⟨h1, h2, x, hx, h3, h4⟩ | ⟨h1, h2⟩
  · refine Or.inl ⟨h1, h2, x, ?_, h3, by rw [seg_app (he x hx).2.1]; exact h4⟩
    unfold dropK cutN
    rcases mem_rest hx (s := s') (by rw [h3]; exact fun e => hne e.symm) with h | h
    · exact List.mem_append_left _ h
    · exact List.mem_append_right _ h
  · refine Or.inr ⟨h1, h2.imp id (fun h hm => h ?_)⟩
    unfold kNm at hm ⊢
    obtain ⟨y, hy, e⟩ := List.mem_map.1 hm
    unfold dropK at hy
    exact List.mem_map.2 ⟨y, cutN_mem hy, e⟩
/-- What a call that turns both leaves of it. -/
theorem LastIs.done {w w' : World} {B g : Nat} {iv kv : Value} {s : ByteArray} {m : List UInt8} {c code : Int} {I R : List UInt8} {K K2 : List Ke} {e : Ending} (h : LastIs s m c I K) (h2 : LastIs s m c (I ++ R) K2) (hd : DoPost w B g iv kv I K code R K2 e w') :
    Kept (SA g iv kv) w w' ∧ ∃ xi' lv' v iv' kv' I' K' L', e = .returned (.tuple #[.agg #[xi', lv'], v, .bool true]) ∧ Tw w' B g iv' kv' xi' lv' I' K' L' ∧ LastIs s m c I' K' := by
  obtain ⟨hb, xi', lv', v, iv', kv', I', K', L', he, ht, hc⟩ := hd
  refine ⟨hb, xi', lv', v, iv', kv', I', K', L', he, ht, ?_⟩
  rcases hc with ⟨_, rfl, rfl, _⟩ | ⟨_, rfl, rfl, _⟩
  · exact h
  · exact h2
theorem LastIs.first {s : ByteArray} {m : List UInt8} (hc : putE [] [] s m = 0) : LastIs s m 0 ([] ++ recK s m) (putK [] [] s m) := by
  have hn : nameB s = true := by
    unfold putE at hc
    split at hc
    · cases hc
    · rename_i hz
      revert hz
      cases nameB s <;> simp
  refine Or.inl ⟨rfl, hn, ⟨s, ([] : List UInt8).length + (recK s m).length - m.length, ([] : List UInt8).length + (recK s m).length⟩, ?_, rfl, ?_⟩
  · unfold putK putN
    exact List.mem_append_right _ (List.mem_cons_self ..)
  · have : recK s m = ([1] ++ nb s ++ be (m.length : Int) 2) ++ m := rfl
    show seg _ (([] : List UInt8).length + (recK s m).length - m.length) (([] : List UInt8).length + (recK s m).length) = m
    rw [this]
    exact seg_end
/-- What Get answers at the end. -/
theorem LastIs.get {w w' : World} {s : ByteArray} {m : List UInt8} {c : Int} {I : List UInt8} {K : List Ke} {e : Ending} (h : LastIs s m c I K) (hok : OkK K) (hg : GetPost w I K s e w') :
    Below w.heap.size w w' ∧ ((c = 0 ∧ ∃ v, e = .returned (.tuple #[v, .int .i64 0]) ∧ OwnB w' w.heap.size v m) ∨ (c ≠ 0 ∧ ∃ k : Int, k ≠ 0 ∧ e = .returned (.tuple #[.slice none 0 0, .int .i64 k]))) := by
  obtain ⟨hb, hg⟩ := hg
  refine ⟨hb, ?_⟩
  rcases h with ⟨h1, h2, x, hx, h3, h4⟩ | ⟨h1, h2⟩
  · have hm : hasN (kNm K) s = true := (has_mem hok.asc).2 (by unfold kNm; exact List.mem_map.2 ⟨x, hx, h3⟩)
    obtain ⟨i, hi, rfl⟩ := List.mem_iff_getElem.1 hx
    have hp := (pos_self hok.asc (List.getElem?_eq_getElem hi)).1
    rw [h3] at hp
    rcases hg with ⟨_, hh⟩ | ⟨_, _, hh⟩ | ⟨v, y, he, _, _, hy, ho⟩
    · rw [h2] at hh; cases hh
    · rw [hm] at hh; cases hh
    · rw [hp, List.getElem?_eq_getElem hi] at hy
      injection hy with hy
      subst hy
      rw [h4] at ho
      exact Or.inl ⟨h1, v, he, ho⟩
  · refine Or.inr ⟨h1, ?_⟩
    rcases hg with ⟨he, _⟩ | ⟨he, _⟩ | ⟨v, y, he, hn, hh, _⟩
    · exact ⟨6, by decide, he⟩
    · exact ⟨211, by decide, he⟩
    · rcases h2 with h2 | h2
      · rw [h2] at hn; cases hn
      · exact absurd ((has_mem hok.asc).1 hh) h2
end Go.Proofs.Ytmhilffaeighnaa

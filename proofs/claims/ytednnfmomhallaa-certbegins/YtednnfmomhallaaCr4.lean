/-
  Small contracts of cert (follows, isCode, hasRoom), and what the bytes of a frame say. No condition.
-/
import Derived.Test.YtednnfmomhallaaCr3
namespace Go.Proofs.Ytednnfmomhallaa
open Go.RowKit

/-- The error of an entry's address, behind another. -/
def aftD (p ahead : Int) : Int := if p < 0 ∨ 4095 < p then 5 else if p = ahead then 61 else if p < ahead then 60 else 0
def isCd (t : Int) : Bool := decide (t ≤ 5) || (decide (16 ≤ t) && decide (t ≤ 47))
theorem follows_any (ahead p : Int) (w : World) : Calls Try.prog 19 #[.int .i64 ahead, .int .i64 p] w fun e w' => e = .returned (.int .i64 (aftD p ahead)) ∧ w' = w := by
  unfold aftD
  go_enter Try.func19, Try.ntmps19
  by_cases h1 : p < 0
  · rw [if_pos (Or.inl h1)]
    go_wp2
    go_ret
    exact ⟨rfl, rfl⟩
  · by_cases h2 : 4095 < p
    · have j2 : p ≥ 4096 := by omega
      rw [if_pos (Or.inr h2)]
      go_wp2
      go_ret
      exact ⟨rfl, rfl⟩
    · have j2 : ¬ p ≥ 4096 := by omega
      rw [if_neg (by omega)]
      by_cases h3 : p = ahead
      · have b3 : (p == ahead) = true := beq_iff_eq.2 h3
        rw [if_pos h3]
        clear h3
        go_wp2
        go_ret
        exact ⟨rfl, rfl⟩
      · have b3 : (p == ahead) = false := beq_f h3
        rw [if_neg h3]
        by_cases h4 : p < ahead
        · rw [if_pos h4]
          go_wp2
          go_ret
          exact ⟨rfl, rfl⟩
        · rw [if_neg h4]
          go_wp2
          go_ret
          exact ⟨rfl, rfl⟩
theorem isCode_any (t : Int) (w : World) : Calls Try.prog 32 #[.int .u8 t] w fun e w' => e = .returned (.bool (isCd t)) ∧ w' = w := by
  unfold isCd
  go_enter Try.func32, Try.ntmps32
  by_cases h1 : t ≤ 5
  · go_wp2
    go_ret
    exact ⟨by simp [h1], rfl⟩
  · by_cases h2 : 16 ≤ t
    · have j2 : t ≥ 16 := h2
      by_cases h3 : t < 48
      · go_wp2
        go_ret
        exact ⟨by simp; omega, rfl⟩
      · go_wp2
        go_ret
        exact ⟨by simp [h1]; omega, rfl⟩
    · have j2 : ¬ t ≥ 16 := h2
      go_wp2
      go_ret
      exact ⟨by simp [h1]; omega, rfl⟩
theorem hasRoom_any (lo he : Int) (w : World) (h1 : 0 ≤ lo ∧ lo ≤ 255) : Calls Try.prog 31 #[.int .i64 lo, .int .i64 he] w fun e w' => e = .returned (.bool (decide (he ≤ 24 - lo))) ∧ w' = w := by
  go_enter Try.func31, Try.ntmps31
  by_cases h : he ≤ 24 - lo
  · go_wp2
    go_ret
    exact ⟨by simp [h], rfl⟩
  · go_wp2
    go_ret
    exact ⟨by simp [h], rfl⟩
/-- Place and error of n types' codes from a place on. -/
def sltE (L : List UInt8) : Nat → Nat → Nat × Int
  | 0, _ => (0, 0)
  | n + 1, q => if L.length ≤ q then (L.length, 2) else if isCd (at8 L q) = false then (q, 62) else sltE L n (q + 1)
/-- Place and error of a frame whose Height stands at a place. -/
def frE (L : List UInt8) (lo p : Nat) : Nat × Int := if L.length ≤ p then (L.length, 2) else if (24 : Int) - lo < at8 L p then (p, 65) else sltE L (lo + (L.getD p 0).toNat) (p + 1)
/-- The slots that n bytes say. -/
def sltD (L : List UInt8) (q n : Nat) : List Nat := ((L.drop q).take n).map UInt8.toNat ++ List.replicate (24 - n) 0
def frX (L : List UInt8) (lo p : Nat) : Fr := ⟨lo, at8 L p, sltD L (p + 1) (lo + (L.getD p 0).toNat)⟩
def frN (L : List UInt8) (lo p : Nat) : Nat := p + 1 + (lo + (L.getD p 0).toNat)
theorem sltD_zero (L : List UInt8) (q : Nat) : sltD L q 0 = List.replicate 24 0 := by simp [sltD]
theorem sltD_len {L : List UInt8} {q n : Nat} (hn : n ≤ 24) (hq : q + n ≤ L.length) : (sltD L q n).length = 24 := by simp [sltD]; omega
theorem sltD_step {L : List UInt8} {q n : Nat} (hn : n < 24) (hq : q + n < L.length) : (sltD L q n).set n (L.getD (q + n) 0).toNat = sltD L q (n + 1) := by
  have hl : (((L.drop q).take n).map UInt8.toNat).length = n := by simp; omega
  have hd : (L.drop q)[n]? = some (L.getD (q + n) 0) := by rw [List.getElem?_drop, List.getD_eq_getElem?_getD, List.getElem?_eq_getElem hq]; rfl
  unfold sltD
  rw [List.set_append_right _ _ (by omega), hl, Nat.sub_self, show 24 - n = (24 - (n + 1)) + 1 by omega, List.replicate_succ, List.set_cons_zero, List.take_add_one, hd, List.map_append]
  simp
theorem sltD_byte {L : List UInt8} {q n : Nat} : ∀ t ∈ sltD L q n, t < 256 := by
  intro t ht
  unfold sltD at ht
  rcases List.mem_append.1 ht with h | h
  · obtain ⟨b, _, rfl⟩ := List.mem_map.1 h
    exact b.toNat_lt
  · rw [List.eq_of_mem_replicate h]; omega
theorem results_cell_tmp_cell {fn : Func} {p u v : Tmp} {ty tz : TypeId} (h : fn.results = #[.cell p ty, .tmp u, .cell v tz]) (tmps : Array Value) (P : Program) (w : World) :
    (results fn tmps).run P w =
      ((asAddr (tmps.getD p undef)).run P w).andThen fun a w₁ => ((loadVar ty a).run P w₁).andThen fun x w₂ => ((asAddr (tmps.getD v undef)).run P w₂).andThen fun b w₃ => ((loadVar tz b).run P w₃).andThen fun y w₄ => .ok (.tuple #[x, tmps.getD u undef, y]) w₄ := by
  simp only [results, h]
  simp [Sem.run_bind, Result.andThen]
theorem results_fr_ft {fn : Func} {p u v : Tmp} (h : fn.results = #[.cell p 40, .tmp u, .cell v 58]) (tmps : Array Value) (W : World) (g k : Nat) (f : Fr) (hf : FrOk f) (n x e : Int)
    (hp : tmps.getD p undef = .pointer (some ⟨g, 0, none⟩)) (hu : tmps.getD u undef = .int .i64 n) (hv : tmps.getD v undef = .pointer (some ⟨k, 0, none⟩)) (hg : FAt W g f) (hk : FtAt W k x e) :
    (results fn tmps).run Try.prog W = .ok (.tuple #[.agg (frA f), .int .i64 n, ftV x e]) W := by
  rw [results_cell_tmp_cell h, hp, hu, hv, run_addr, Result.andThen_ok, run_loadVar_row W g 40 40 (frA f) (0, 0) _ hg Try.underlying40 rfl (sizeFr hf), Result.andThen_ok, run_addr, Result.andThen_ok, run_loadFt hk, Result.andThen_ok]
theorem FAt.chain {W : World} {g k : Nat} {f : Fr} (h : FAt W g f) (hne : g ≠ k) (v0 v1 : Value) : FAt ((W.setCell ⟨k, 0, none⟩ v0).setCell ⟨k, 1, none⟩ v1) g f := (h.cellOther ⟨k, 0, none⟩ v0 hne).cellOther ⟨k, 1, none⟩ v1 hne
end Go.Proofs.Ytednnfmomhallaa

/-
  What Check lets through goes on at instructions alone: plain.
  slices.Contains of numbers.
-/
import Derived.Test.YtdpfinnclnapbaaRc3
namespace Go.Proofs.Ytdpfinnclnapbaa
open Go.RowKit

/-- Instructions that stand one behind the other, from k to n. -/
def Chn (n : Nat) : Nat → List Ix → Prop
  | k, [] => k = n
  | k, x :: t => x.p = (k : Int) ∧ 1 ≤ sizeD x.op ∧ Chn n (k + sizeD x.op) t
theorem sc_chn (L : List UInt8) : ∀ f k, (scD L f k).2.2 = 0 → k ≤ L.length → L.length < f + k → Chn L.length k (scD L f k).1 := by
  intro f
  induction f with
  | zero => intro k _ h1 h2; omega
  | succ f ih =>
    intro k he h1 h2
    by_cases hk : k < L.length
    · by_cases hd : dE (L.drop k) = 0
      · rw [sc_good hk hd] at he ⊢
        obtain ⟨_, hp, hs1, hs2⟩ := ixD_ok (k := k) hd
        rw [List.length_drop] at hs2
        exact ⟨hp, hs1, ih _ he (by omega) (by omega)⟩
      · rw [sc_bad hk hd] at he
        exact absurd he hd
    · rw [sc_end hk]
      show k = L.length
      omega
theorem Chn.ge {n : Nat} : ∀ {l : List Ix} {k : Nat}, Chn n k l → ∀ x ∈ l, (k : Int) ≤ x.p
  | [], _, _, x, hx => by cases hx
  | y :: t, k, h, x, hx => by
    rcases List.mem_cons.1 hx with hx | hx
    · rw [hx, h.1]; exact Int.le_refl _
    · have := Chn.ge h.2.2 x hx
      have := h.2.1
      omega
theorem Chn.one {n : Nat} : ∀ {l : List Ix} {k : Nat}, Chn n k l → ∀ x ∈ l, ∀ y ∈ l, x.p = y.p → x = y
  | [], _, _, x, hx => by cases hx
  | z :: t, k, h, x, hx => fun y hy e => by
    have hg := Chn.ge h.2.2
    have h1 := h.1
    have h2 := h.2.1
    rcases List.mem_cons.1 hx with hx | hx
    · rcases List.mem_cons.1 hy with hy | hy
      · rw [hx, hy]
      · have := hg y hy; rw [hx] at e; omega
    · rcases List.mem_cons.1 hy with hy | hy
      · have := hg x hx; rw [hy] at e; omega
      · exact Chn.one h.2.2 x hx y hy e
theorem Chn.next {n : Nat} : ∀ {l : List Ix} {k : Nat}, Chn n k l → ∀ x ∈ l, l.getLast? = some x ∨ hasP l (x.p + sizeD x.op) = true
  | [], _, _, x, hx => by cases hx
  | [z], _, _, x, hx => by rw [List.mem_singleton.1 hx]; exact .inl rfl
  | z :: y :: t, k, h, x, hx => by
    rcases List.mem_cons.1 hx with hx | hx
    · refine .inr ?_
      have h1 := h.1
      have h2 := h.2.2.1
      rw [hx]
      unfold hasP
      rw [List.any_eq_true]
      exact ⟨y, by simp, by simp; rw [h2, h1]; omega⟩
    · rcases Chn.next h.2.2 x hx with h1 | h1
      · exact .inl (by rw [List.getLast?_cons_cons]; exact h1)
      · refine .inr ?_
        unfold hasP at h1 ⊢
        rw [List.any_cons, h1, Bool.or_true]
theorem ckJ_all (l : List Ix) : ∀ {r : List Ix}, ckJ l r = none → ∀ x ∈ r, jmpD x.op = true → hasP l x.a = true
  | [], _, x, hx => by cases hx
  | y :: t, h, x, hx => fun hj => by
    unfold ckJ at h
    split at h
    · cases h
    · rename_i hc
      rcases List.mem_cons.1 hx with hx | hx
      · rw [hx] at hj ⊢
        cases hh : hasP l y.a with
        | true => rfl
        | false => exact absurd (by rw [hj, hh]; rfl) hc
      · exact ckJ_all l h x hx hj
theorem ckL_ok {l : List Ix} (h : (ckL l).2 = 0) : ckJ l l = none ∧ ∃ x, l.getLast? = some x ∧ endD x.op = true := by
  unfold ckL at h
  split at h
  · simp at h
  · rename_i hj
    refine ⟨hj, ?_⟩
    split at h
    · simp at h
    · rename_i x hx
      split at h
      · rename_i he; exact ⟨x, hx, he⟩
      · simp at h
theorem next_mem {p : Int} {op : Nat} {a b : Int} (h : b ∈ nextD p op a) : (b = p + sizeD op ∧ endD op = false) ∨ (b = a ∧ jmpD op = true) := by
  unfold nextD at h
  split at h
  · cases h
  · have h0 : ∀ y ∈ (if endD op then [] else putJ [] (p + sizeD op)), y = p + sizeD op ∧ endD op = false := by
      intro y hy
      split at hy
      · cases hy
      · rename_i he
        rcases mem_putJ.1 hy with hy | hy
        · exact ⟨hy, by simpa using he⟩
        · cases hy
    simp only [] at h
    split at h
    · rename_i hj
      rcases mem_putJ.1 h with h | h
      · exact .inr ⟨h, hj⟩
      · exact .inl (h0 _ h)
    · exact .inl (h0 _ h)
/-- The ways on of code that may be lead to instructions. -/
theorem ways_in {n : Nat} {l : List Ix} (hc : Chn n 0 l) (hk : (ckL l).2 = 0) {x : Ix} (hx : x ∈ l) {b : Int} (hb : b ∈ nextD x.p x.op x.a) : hasP l b = true := by
  obtain ⟨hj, y, hy, he⟩ := ckL_ok hk
  rcases next_mem hb with ⟨rfl, hn⟩ | ⟨rfl, hjm⟩
  · rcases hc.next x hx with h1 | h1
    · rw [hy] at h1
      injection h1 with h1
      rw [h1, hn] at he
      cases he
    · exact h1
  · exact ckJ_all l hj x hx hjm
theorem rch_on {n : Nat} {l : List Ix} (hc : Chn n 0 l) (hk : (ckL l).2 = 0) {x : Ix} (hx : x ∈ l) {s b : Int} (hr : Rch l s x.p) (hb : b ∈ nextD x.p x.op x.a) : Rch l s b := by
  obtain ⟨i, hi, _⟩ := pl_some hr.has
  obtain ⟨y, hy, hp⟩ := pI_some hi
  have : y = x := hc.one y (List.mem_of_getElem? hy) x hx hp
  subst this
  exact .next hr hi hy hb (ways_in hc hk hx hb)
theorem rch_zero {n : Nat} {l : List Ix} (hc : Chn n 0 l) (hk : (ckL l).2 = 0) : Rch l 0 0 := by
  obtain ⟨_, y, hy, _⟩ := ckL_ok hk
  cases l with
  | nil => cases hy
  | cons x t =>
    refine .here ?_
    unfold hasP
    rw [List.any_cons]
    have : x.p = 0 := hc.1
    simp [this]
theorem asc_zero {l : List Ix} {n : Nat} (hc : Chn n 0 l) {js : List Int} (ha : AscJ js) (hm : ∀ x, x ∈ js ↔ Rch l 0 x) (h0 : Rch l 0 0) : ∃ t, js = 0 :: t := by
  cases js with
  | nil => have := (hm 0).2 h0; cases this
  | cons y t =>
    have hy := ((hm y).1 (List.mem_cons_self ..)).has
    unfold hasP at hy
    rw [List.any_eq_true] at hy
    obtain ⟨z, hz, hp⟩ := hy
    have hp : z.p = y := of_decide_eq_true hp
    have := hc.ge z hz
    rcases List.mem_cons.1 ((hm 0).2 h0) with h | h
    · exact ⟨t, by rw [h]⟩
    · have := (List.pairwise_cons.1 ha).1 0 h
      omega
set_option maxRecDepth 20000 in
set_option maxHeartbeats 4000000 in
theorem IndexJ_any (ao : Option Addr) (c : Nat) (l : List Int) (a : Int) (w : World) (hx : JsAt w ao l) (hz : l.length ≤ 4400000000000) :
    Calls Try.prog 12 #[.slice ao l.length c, .int .i64 a] w fun e w' => ∃ n : Int, e = .returned (.int .i64 n) ∧ Hid (decide (n ≥ 0) = decide (a ∈ l)) ∧ w' = w := by
  have HX := hide hx
  clear hx
  go_enter Try.func12, Try.ntmps12
  go_wp2
  go_loopw [8] (fun i wr => ∃ k : Nat, k ≤ l.length ∧ i = .int .i64 (k : Int) ∧ Hid (a ∉ l.take k) ∧ wr = w) (fun i _ => l.length - (intOf i).toNat)
  case atStart => exact ⟨0, by omega, rfl, hide (by simp), rfl⟩
  case round =>
    obtain ⟨k, hk, rfl, HN, rfl⟩ := hrel
    by_cases hkl : k < l.length
    · have j1 : ((k : Nat) : Int) < ((l.length : Nat) : Int) := by omega
      have hy := List.getElem?_eq_getElem hkl
      generalize l[k] = y at hy
      obtain ⟨b, off, rfl, hyc⟩ := (unhide HX) k y hy
      have HTk := hide (take_snocJ hy)
      have HM := hide (List.mem_of_getElem? hy)
      clear hy
      by_cases hp : a = y
      · have hq : (a == y) = true := by simpa using hp
        have HF : Hid (a ∈ l) := hide (by rw [hp]; exact unhide HM)
        clear hp
        go_wp2
        go_ret
        exact ⟨_, rfl, hide (by rw [decide_eq_true (unhide HF)]; simp), rfl⟩
      · have hq : (a == y) = false := by simpa using hp
        have HT2 : Hid (a ∉ l.take (k + 1)) := hide (by rw [unhide HTk, List.mem_append, List.mem_singleton]; rintro (h | h); exact unhide HN h; exact hp h)
        clear hp
        go_wp2
        go_roundw
        case rel => exact ⟨k + 1, by omega, by go_num, HT2, trivial⟩
        case measure => simp [intOf]; omega
    · obtain rfl : k = l.length := by omega
      rw [List.take_length] at HN
      go_wp2
      go_ret
      exact ⟨_, rfl, hide (by rw [decide_eq_false (unhide HN)]; simp), rfl⟩
set_option maxRecDepth 20000 in
theorem ContainsJ_any (ao : Option Addr) (c : Nat) (l : List Int) (a : Int) (w : World) (hx : JsAt w ao l) (hz : l.length ≤ 4400000000000) :
    Calls Try.prog 16 #[.slice ao l.length c, .int .i64 a] w fun e w' => e = .returned (.bool (decide (a ∈ l))) ∧ w' = w := by
  have HI := hide (IndexJ_any ao c l a w hx hz)
  clear hx
  go_enter Try.func16, Try.ntmps16
  go_wp2_with (go_at_call 12; refine (unhide HI).mono ?_; rintro e w1 ⟨n, rfl, hn, rfl⟩)
  go_ret
  exact ⟨by rw [← unhide hn]; rfl, rfl⟩
end Go.Proofs.Ytdpfinnclnapbaa

/-
  The shelf of the laws: what it holds, contracts of its Bytes, of mark and of marked. Conditions: at most a million lists.
-/
import Derived.Test.YtghdefhbncejjaaApp2
import Derived.Test.YtghdefhbncejjaaWriter
import Derived.Maps.AppendAt
namespace Go.Proofs.Ytghdefhbncejjaa
open Go.RowKit

theorem rowKeep {S : Nat → Prop} {w w' : World} {B : Nat} {t : TypeId} {v : Value} {n : Nat} {cs : List Value} (h : w.ownsRow B t 1 v n cs) (hk : Kept S w w') (hs : ∀ k, v.ownBlock = some k → ¬ S k) : w'.ownsRow B t 1 v n cs := by
  refine ⟨h.1, ?_⟩
  rcases h.2 with h1 | ⟨g, cap, cur, hv, hbg, hh, r⟩
  · exact Or.inl h1
  · exact Or.inr ⟨g, cap, cur, hv, hbg, by rw [hk.block g (Array.getElem?_eq_some_iff.1 hh).1 (hs g (by rw [hv]; rfl))]; exact hh, r⟩
theorem rowType {w : World} {B : Nat} {t : TypeId} {v : Value} {n : Nat} {cs : List Value} (h : w.ownsRow B t 1 v n cs) : ∀ k, v.ownBlock = some k → ∃ cur, w.heap[k]? = some (.cells cur t (0, 0)) := by
  intro k hk
  rcases h.2 with ⟨rfl, _⟩ | ⟨g, cap, cur, rfl, _, hh, _⟩
  · cases hk
  · cases hk; exact ⟨cur, hh⟩
/-- Rows of different types of elements lie in different blocks. -/
theorem rowApart {w : World} {B B' : Nat} {t t' : TypeId} {v v' : Value} {n n' : Nat} {cs cs' : List Value} (h : w.ownsRow B t 1 v n cs) (h' : w.ownsRow B' t' 1 v' n' cs') (hne : t ≠ t') : ∀ k, v.ownBlock = some k → v'.ownBlock ≠ some k := by
  intro k e1 e2
  obtain ⟨c1, g1⟩ := rowType h k e1
  obtain ⟨c2, g2⟩ := rowType h' k e2
  rw [g1] at g2
  simp at g2
  exact hne g2.2

/-- The mark of the list of a number. -/
def mk8 (i : Nat) : UInt8 := UInt8.ofNat (i % 250 + 1)
theorem mk8_toNat (i : Nat) : (mk8 i).toNat = i % 250 + 1 := by
  unfold mk8
  have : i % 250 < 250 := Nat.mod_lt _ (by decide)
  simp
  omega
theorem mark_any (i : Nat) (w : World) (hi : i ≤ 1000000) :
    Calls Try.prog 37 #[.int .i64 (i : Int)] w fun e w' => e = .returned (.int .i64 ((mk8 i).toNat : Int)) ∧ w' = w := by
  have hm := hide (mk8_toNat i)
  have hr : ((i : Int).tmod 250) = ((i % 250 : Nat) : Int) := by rw [Int.tmod_eq_emod_of_nonneg (by omega)]; omega
  go_enter Try.func37, Try.ntmps37
  go_wp2
  go_ret
  refine ⟨ret_int ?_, rfl⟩
  have := unhide hm
  omega

structure Sh (w : World) (sp : Nat) (sv : Value) (its : List Value) : Prop where
  box : w.heap[sp]? = some (.cells #[sv, .slice none 0 0] 48 (0, 0))
  row : w.ownsRow 0 22 1 sv its.length its

theorem Sh.c0 {w : World} {sp : Nat} {sv : Value} {its : List Value} (h : Sh w sp sv its) : w.cell? ⟨sp, 0, none⟩ = some sv := by
  rw [cell_of_row _ _ _ _ _ _ h.box]; rfl
theorem Sh.c1 {w : World} {sp : Nat} {sv : Value} {its : List Value} (h : Sh w sp sv its) : w.cell? ⟨sp, 1, none⟩ = some (.slice none 0 0) := by
  rw [cell_of_row _ _ _ _ _ _ h.box]; rfl
theorem Sh.f0 {w : World} {sp : Nat} {sv : Value} {its : List Value} (h : Sh w sp sv its) : w.frozen? ⟨sp, 0, none⟩ = false := frozen_of_row _ _ _ _ _ h.box
theorem Sh.pl {w : World} {sp : Nat} {sv : Value} {its : List Value} (h : Sh w sp sv its) : sp < w.heap.size := (Array.getElem?_eq_some_iff.1 h.box).1
theorem Sh.ne {w : World} {sp : Nat} {sv : Value} {its : List Value} (h : Sh w sp sv its) : sv.ownBlock ≠ some sp := by
  intro e
  obtain ⟨c, hc⟩ := rowType h.row sp e
  rw [h.box] at hc
  simp at hc
/-- No row of bytes lies in the shelf. -/
theorem Sh.bytes {w : World} {sp : Nat} {sv : Value} {its : List Value} (h : Sh w sp sv its) {B : Nat} {v : Value} {l : List UInt8} (ho : OwnB w B v l) : v.ownBlock ≠ some sp ∧ ∀ k, v.ownBlock = some k → sv.ownBlock ≠ some k := by
  refine ⟨fun e => ?_, rowApart ho h.row (by decide)⟩
  obtain ⟨c, hc⟩ := rowType ho sp e
  rw [h.box] at hc
  simp at hc
theorem Sh.keep {S : Nat → Prop} {w w' : World} {sp : Nat} {sv : Value} {its : List Value} (h : Sh w sp sv its) (hk : Kept S w w') (h1 : ¬ S sp) (h2 : ∀ k, sv.ownBlock = some k → ¬ S k) : Sh w' sp sv its :=
  ⟨by rw [hk.block sp h.pl h1]; exact h.box, rowKeep h.row hk h2⟩
theorem Sh.below {w w' : World} {sp : Nat} {sv : Value} {its : List Value} (h : Sh w sp sv its) (hb : Below w.heap.size w w') : Sh w' sp sv its :=
  h.keep (Kept.of_below hb (fun _ => False)) (fun h => h) (fun _ _ h => h)

theorem info22 : (Try.prog.info? 22).map (fun i => (i.zero, i.size, i.bytes)) = some (some (.slice none 0 0), 1, 24) := by kernel_rfl

set_option maxHeartbeats 1000000 in
theorem ShBytes {w : World} {sp : Nat} {sv : Value} {its : List Value} (h : Sh w sp sv its) (ao : Option Addr) (n c : Nat) (hn : its.length ≤ 1000000) :
    Calls Try.prog 23 #[.pointer (some ⟨sp, 0, none⟩), .slice ao n c] w fun e w' => e = .returned (.tuple #[]) ∧ ∃ sv', Sh w' sp sv' (its ++ [.slice ao n c]) ∧ Kept (fun k => k = sp ∨ sv.ownBlock = some k) w w' ∧ (∀ k, sv'.ownBlock = some k → sv.ownBlock = some k ∨ w.heap.size ≤ k) := by
  obtain ⟨i0, hi, hz0, hz1, hz2⟩ := info_parts info22
  have c0 := h.c0
  have f0 := h.f0
  have hpl := h.pl
  have hne := h.ne
  have HR := hide (h.row.alloc (.cells #[.slice ao n c] 22))
  have HB := hide h.box
  clear h
  go_enter Try.func23, Try.ntmps23
  go_wp2_with (at_builtin; refine wpList_append_own_at _ rfl _ _ 45 rfl 0 22 i0 (.slice none 0 0) 1 24 Try.underlying45 hi hz0 hz1 hz2 rfl (by decide) _ its.length its rfl (unhide HR) ⟨w.heap.size, 0, none⟩ 1 1 [.slice ao n c] rfl rfl (cell_one_new _ _ _) (by simp [Value.oneCell']) ?a3 ?a4 (Nat.zero_le _) ?_)
  case a3 => unfold maxLen; omega
  case a4 => omega
  intro sv' w2 hO hG _ hF
  have hK : Kept (fun k => sv.ownBlock = some k) w w2 := Kept.trans (Kept.of_below ((Below.refl w.heap.size w).alloc (Nat.le_refl _) (.cells #[.slice ao n c] 22)) (fun k => sv.ownBlock = some k)) (Kept.of_grown hG) (fun _ _ h => h) (fun _ _ h => h.symm)
  have hbx : w2.heap[sp]? = some (.cells #[sv, .slice none 0 0] 48 (0, 0)) := (hK.block sp hpl hne).trans (unhide HB)
  have c0' : w2.cell? ⟨sp, 0, none⟩ = some sv := by rw [cell_of_row _ _ _ _ _ _ hbx]; rfl
  have f0' : w2.frozen? ⟨sp, 0, none⟩ = false := frozen_of_row _ _ _ _ _ hbx
  have hF' : ∀ k, sv'.ownBlock = some k → sv.ownBlock = some k ∨ w.heap.size ≤ k := fun k hk => by
    rcases hF with e | e
    · exact .inl (e ▸ hk)
    · rw [e] at hk; injection hk with hk; exact .inr (by omega)
  obtain ⟨a', n', c', rfl⟩ : ∃ a' n' c', sv' = .slice a' n' c' := by
    rcases hO.2 with ⟨e, _⟩ | ⟨g, cap, cur, e, _⟩
    · exact ⟨_, _, _, e⟩
    · exact ⟨_, _, _, e⟩
  have hO' := hide hO
  have HK := hide hK
  have HBX := hide hbx
  have hne2 : (Value.slice a' n' c').ownBlock ≠ some sp := by
    intro e
    rcases hF' sp e with e | e
    · exact hne e
    · omega
  clear hO hG hF hK hbx c0 f0 HR HB hn hi hz0 hz1 hz2 hpl hne
  go_wp2
  go_end0
  refine ⟨rfl, _, ⟨?_, ?_⟩, (unhide HK).trans (kept_setCell _ _ _) (fun _ _ h => .inr h) (fun _ _ h => .inl h), hF'⟩
  · have := heap_setCell_same w2 sp 0 #[sv, .slice none 0 0] 48 (.slice a' n' c') (unhide HBX)
    exact this
  · have := rowKeep (unhide hO') (kept_setCell w2 ⟨sp, 0, none⟩ (.slice a' n' c')) (fun k hk e => hne2 (by rw [hk, e]))
    simpa using this

/-- A list that bears the mark of a number all over. -/
def ItM (w : World) (v : Value) (i : Nat) : Prop := ∃ l : List UInt8, OwnB w 0 v l ∧ l.length ≤ 140737488355328 ∧ ∀ x ∈ l, x = mk8 i
theorem ItM.at {w : World} {v : Value} {i : Nat} (h : ItM w v i) : ∃ ao n c, v = .slice ao n c ∧ n < 9223372036854775807 ∧ ∀ q, q < n → ∃ b off, ao = some ⟨b, off, none⟩ ∧ w.cell? ⟨b, off + q, none⟩ = some (.int .u8 ((mk8 i).toNat : Int)) := by
  obtain ⟨l, ho, hl, hx⟩ := h
  obtain ⟨ao, c, e, hb⟩ := ho.at
  refine ⟨ao, l.length, c, e, by omega, fun q hq => ?_⟩
  obtain ⟨b, off, e', hc⟩ := hb q hq
  refine ⟨b, off, e', ?_⟩
  rw [hc]
  unfold at8
  rw [List.getD_eq_getElem?_getD, List.getElem?_eq_getElem hq, Option.getD_some, hx _ (List.getElem_mem hq)]

theorem row_at {w : World} {B : Nat} {t : TypeId} {v : Value} {cs : List Value} (h : w.ownsRow B t 1 v cs.length cs) (hp : 0 < cs.length) : ∃ g cap, v = .slice (some ⟨g, 0, none⟩) cs.length cap ∧ ∀ k u, cs[k]? = some u → w.cell? ⟨g, k, none⟩ = some u := by
  rcases h.2 with ⟨_, e⟩ | ⟨g, cap, cur, rfl, _⟩
  · omega
  · refine ⟨g, cap, rfl, fun k u hu => ?_⟩
    have hk := (List.getElem?_eq_some_iff.1 hu).1
    rw [h.cellAt k (by omega)]
    exact hu

set_option maxHeartbeats 2000000 in
theorem marked_yes {w : World} {sp : Nat} {sv mv : Value} {its gs : List Value} {b : Nat} (h : Sh w sp sv its) (hm : w.ownsRow b 22 1 mv gs.length gs) (hl : gs.length = its.length) (hp : 0 < its.length) (hn : its.length ≤ 1000000)
    (h1 : ∀ (i : Nat) v, its[i]? = some v → ItM w v i) (h2 : ∀ (i : Nat) v, gs[i]? = some v → ItM w v i) :
    Calls Try.prog 38 #[.pointer (some ⟨sp, 0, none⟩), mv, .slice none 0 0] w fun e w' => e = .returned (.bool true) ∧ w' = w := by
  have c0 := h.c0
  have c1 := h.c1
  obtain ⟨g, cap, rfl, hg⟩ := row_at h.row hp
  obtain ⟨g', cap', rfl, hg'⟩ := row_at hm (by omega)
  have HL := hide hl
  have hl' : its.length ≤ gs.length := by omega
  have H1 := hide h1
  have H2 := hide h2
  have HG := hide hg
  have HG' := hide hg'
  clear h hm hl h1 h2 hg hg'
  go_enter Try.func38, Try.ntmps38
  go_wp2
  go_loopw [24] (fun i wr => (∃ k : Nat, k ≤ its.length ∧ i = .int .i64 k) ∧ wr = w) (fun i _ => its.length - (intOf i).toNat)
  case atStart => exact ⟨⟨0, by omega, rfl⟩, rfl⟩
  case round =>
    obtain ⟨⟨k, hk, rfl⟩, rfl⟩ := hrel
    by_cases hlt : k < its.length
    · have i1 : ((k : Nat) : Int) < ((its.length : Nat) : Int) := by omega
      have i2 : ((k : Nat) : Int) < ((gs.length : Nat) : Int) := by omega
      have d1 := unhide HG k _ (List.getElem?_eq_getElem hlt)
      have d2 := unhide HG' k _ (List.getElem?_eq_getElem (show k < gs.length by omega))
      obtain ⟨ao, n, c, e1, hn1, hc1⟩ := (unhide H1 k _ (List.getElem?_eq_getElem hlt)).at
      obtain ⟨ao', n', c', e2, hn2, hc2⟩ := (unhide H2 k _ (List.getElem?_eq_getElem (show k < gs.length by omega))).at
      rw [e1] at d1
      rw [e2] at d2
      have hM := hide (mk8_toNat k)
      have hml : (mk8 k).toNat < 256 := (mk8 k).toNat_lt
      have HC1 := hide hc1
      have HC2 := hide hc2
      clear e1 e2 hc1 hc2
      go_wp2
      go_loopw [31] (fun i wr' => (∃ q : Nat, q ≤ n ∧ i = .int .i64 q) ∧ wr' = wr) (fun i _ => n - (intOf i).toNat)
      case atStart => exact ⟨⟨0, by omega, rfl⟩, rfl⟩
      case round =>
        obtain ⟨⟨q, hq, rfl⟩, rfl⟩ := hrel
        by_cases hqn : q < n
        · obtain ⟨x, off, rfl, hcq⟩ := unhide HC1 q hqn
          have j1 : ((q : Nat) : Int) < ((n : Nat) : Int) := by omega
          go_wp2_with fail
          refine (mark_any k _ (by omega)).mono ?_
          rintro e w2 ⟨rfl, rfl⟩
          go_wp2
          go_roundw
          case rel => exact ⟨⟨q + 1, by omega, by go_num⟩, by trivial⟩
          case measure => simp [intOf]; omega
        · go_wp2
          go_loopw [46] (fun i wr' => (∃ q : Nat, q ≤ n' ∧ i = .int .i64 q) ∧ wr' = wr) (fun i _ => n' - (intOf i).toNat)
          case atStart => exact ⟨⟨0, by omega, rfl⟩, rfl⟩
          case round =>
            obtain ⟨⟨q, hq, rfl⟩, rfl⟩ := hrel
            by_cases hqn : q < n'
            · obtain ⟨x, off, rfl, hcq⟩ := unhide HC2 q hqn
              have j1 : ((q : Nat) : Int) < ((n' : Nat) : Int) := by omega
              go_wp2_with fail
              refine (mark_any k _ (by omega)).mono ?_
              rintro e w2 ⟨rfl, rfl⟩
              go_wp2
              go_roundw
              case rel => exact ⟨⟨q + 1, by omega, by go_num⟩, by trivial⟩
              case measure => simp [intOf]; omega
            · go_wp2
              go_roundw
              case rel => exact ⟨⟨k + 1, by omega, by go_num⟩, by trivial⟩
              case measure => simp [intOf]; omega
    · go_wp2
      go_loopw [62] (fun i wr' => i = .int .i64 0 ∧ wr' = wr) (fun _ _ => 0)
      case atStart => exact ⟨rfl, rfl⟩
      case round =>
        obtain ⟨rfl, rfl⟩ := hrel
        go_wp2
        go_ret
        exact ⟨rfl, rfl⟩
end Go.Proofs.Ytghdefhbncejjaa

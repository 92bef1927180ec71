/-
  The contract of frames.texts: the words of the types, joined by blanks. Conditions: the table and the words lie there, the text fits.
-/
import Derived.Test.YtelbajcfdecaoaaDoorJn
import Derived.Test.YtelbajcfdecaoaaDoorWords
namespace Go.Proofs.YtelbajcfdecaoaaDoor
open Go.RowKit
set_option maxRecDepth 20000

def svals (l : List ByteArray) : List Value := l.map Value.string
def OwnS (w : World) (base : Nat) (v : Value) (l : List ByteArray) : Prop := w.ownsRow base 9 1 v l.length (svals l)
theorem infoSt : (Tryd.prog.info? 9).map (fun i => (i.zero, i.size, i.bytes)) = some (some (.string ⟨#[]⟩), 1, 16) := by kernel_rfl
theorem OwnS.shape {w : World} {base : Nat} {v : Value} {l : List ByteArray} (h : OwnS w base v l) :
    (v = .slice none 0 0 ∧ l = []) ∨ ∃ g cap, v = .slice (some ⟨g, 0, none⟩) l.length cap ∧ g < w.heap.size ∧ l.length ≤ cap ∧ ∀ (j : Nat) x, l[j]? = some x → w.cell? ⟨g, 0 + j, none⟩ = some (.string x) := by
  rcases h.2 with ⟨h1, h2⟩ | ⟨g, cap, cur, hv, hb, hh, hn, hm, hs, ht⟩
  · exact .inl ⟨h1, List.eq_nil_of_length_eq_zero h2⟩
  · refine .inr ⟨g, cap, hv, (Array.getElem?_eq_some_iff.1 hh).1, hn, fun j x hx => ?_⟩
    have hj := (List.getElem?_eq_some_iff.1 hx).1
    have h' : w.ownsRow base 9 1 (.slice (some ⟨g, 0, none⟩) l.length cap) l.length (svals l) := hv ▸ h
    have := h'.cellAt j (by omega)
    rw [Nat.zero_add, this]
    unfold svals
    rw [List.getElem?_map, hx]
    rfl

/-- The text of a row of types. -/
def textD (T : List Cl) (es : List Nat) : List UInt8 := Lib.join ((es.map (printD T)).map (·.data.toList)) [32]

set_option maxHeartbeats 1000000 in
theorem texts_any (ao : Option Addr) (cap : Nat) (T : List Cl) (b off n c : Nat) (es : List Nat) (w : World) (hT : TabAt w ao T) (hW : WordsAt w) (hn : n = es.length) (hes : ∀ (i : Nat) t, es[i]? = some t → w.cell? ⟨b, off + i, none⟩ = some (.int .u8 (t : Int)) ∧ t < 256) (hlen : n ≤ 24)
    (hJ : (textD T es).length ≤ 140737488355328) :
    Calls Tryd.prog 48 #[.slice ao T.length cap, .slice (some ⟨b, off, none⟩) n c] w fun e w' => e = .returned (.string ⟨(textD T es).toArray⟩) ∧ Below w.heap.size w w' := by
  obtain ⟨i0, hi, hz0, hz1, hz2⟩ := info_parts infoSt
  have HT := hide hT
  have HW := hide hW
  have HE := hide hes
  have HN := hide hn
  clear hT hW hes hn
  go_enter Tryd.func48, Tryd.ntmps48
  go_wp2
  go_loopw [5, 10] (fun v i wr => ∃ k : Nat, k ≤ n ∧ i = .int .i64 k ∧ Hid (OwnS wr w.heap.size v ((es.take k).map (printD T))) ∧ Hid (Below w.heap.size w wr)) (fun _ i _ => n - (intOf i).toNat)
  case atStart => exact ⟨0, by omega, rfl, hide (World.ownsRow_nil _ _ _ _), hide (Below.refl _ _)⟩
  case round =>
    obtain ⟨k, hk, rfl, HO, HB⟩ := hrel
    by_cases hlt : k < n
    · have hlt' : k < es.length := by have := unhide HN; omega
      obtain ⟨c1, ht8⟩ := unhide HE k _ (List.getElem?_eq_getElem hlt')
      have c1' := ((unhide HB).cell (p := ⟨b, off + k, none⟩) (World.block_lt_of_cell? w _ c1)).trans c1
      have HS : Hid ((es.take (k + 1)).map (printD T) = (es.take k).map (printD T) ++ [printD T es[k]]) := hide (by rw [List.take_succ_eq_append_getElem hlt', List.map_append]; rfl)
      generalize es[k] = t at c1' ht8 HS
      clear c1
      have i1 : ((k : Nat) : Int) < ((n : Nat) : Int) := by omega
      go_wp2_with fail
      with_reducible refine (Print_any ao cap T t _ ((unhide HT).below (unhide HB)) ((unhide HW).below (unhide HB)) ht8).mono ?_
      rintro e w2 ⟨rfl, hw2⟩
      rw [hw2]
      clear hw2
      have hlk : ((es.take k).map (printD T)).length ≤ 24 := by simp; omega
      generalize (es.take k).map (printD T) = l at HO HS hlk
      generalize printD T t = z at HS ⊢
      have HOa : Hid ((wr.alloc (.cells #[.string z] 9)).ownsRow w.heap.size 9 1 u5 l.length (svals l)) := hide (World.ownsRow.alloc (unhide HO) _)
      have hbs := (unhide HB).size
      clear c1' HO
      go_wp2_with (at_builtin; refine wpList_append_own _ rfl _ _ 110 rfl w.heap.size 9 i0 (.string ⟨#[]⟩) 1 16 Tryd.underlying110 hi hz0 hz1 hz2 rfl (by decide) _ l.length (svals l) rfl (unhide HOa) ⟨wr.heap.size, 0, none⟩ 1 1 [.string z] rfl rfl (cell_one_newI wr (.string z) 9) (by simp [Value.oneCell']) ?a3 ?a4 ?a5 ?_)
      case a3 => unfold maxLen; omega
      case a4 => omega
      case a5 => simp; omega
      intro v4 w4 hO4 hG4 _
      have HO4 : Hid (OwnS w4 w.heap.size v4 ((es.take (k + 1)).map (printD T))) := hide (by
        rw [unhide HS]
        unfold OwnS svals
        rw [List.length_append, List.map_append]
        exact hO4)
      have HB4 : Hid (Below w.heap.size w w4) := hide (((unhide HB).alloc hbs _).trans (below_grown hG4 (by simp; omega) (fun q e => (World.ownsRow.lt (unhide HOa) q e).1)))
      clear hO4 hG4 HOa HB HS
      go_wp2
      go_roundw
      case rel => exact ⟨k + 1, by omega, by go_num, HO4, HB4⟩
      case measure => simp [intOf]; omega
    · have hk2 : (es.take k).map (printD T) = es.map (printD T) := by rw [List.take_of_length_le (by have := unhide HN; omega)]
      have HO2 : Hid (OwnS wr w.heap.size u5 (es.map (printD T))) := hide (by rw [← hk2]; exact unhide HO)
      clear hk2 HO
      rcases (unhide HO2).shape with ⟨rfl, he⟩ | ⟨g, cp, rfl, hg, hcp, hcell⟩
      · have HR : Hid (textD T es = []) := hide (by unfold textD; rw [he]; simp [Lib.join])
        have JN := hide (fun c s => Join_none none c s wr)
        clear he HO2
        go_wp2_with (go_at_call 82; with_reducible refine (unhide JN _ _).mono ?_; rintro e w5 ⟨rfl, rfl⟩)
        go_ret
        exact ⟨by rw [unhide HR]; rfl, unhide HB⟩
      · have hmn : (es.map (printD T)).length ≤ 24 := by simp; have := unhide HN; omega
        have JN := hide (Join_any g 0 cp (es.map (printD T)) ⟨#[32]⟩ wr hcell hg (by omega) hcp (by have := hJ; unfold textD at this; exact this))
        have HR : Hid ((Lib.join ((es.map (printD T)).map (·.data.toList)) (⟨#[32]⟩ : ByteArray).data.toList) = textD T es) := hide rfl
        rw [unhide HR] at JN
        simp only [List.length_map] at JN ⊢
        clear hcell HO2
        go_wp2_with (go_at_call 82; with_reducible refine (unhide JN).mono ?_; rintro e w5 ⟨rfl, hB5⟩)
        have HB5 := hide ((unhide HB).trans (hB5.mono (unhide HB).size))
        go_ret
        exact ⟨rfl, unhide HB5⟩
end Go.Proofs.YtelbajcfdecaoaaDoor

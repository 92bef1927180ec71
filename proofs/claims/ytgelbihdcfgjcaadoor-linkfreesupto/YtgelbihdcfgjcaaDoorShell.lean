/-
  How a slice of bytes that came in as an argument is read as a list of bytes. No Go in it.
-/
import Derived.Test.YtgelbihdcfgjcaaDoorMem
import Derived.OpenShut
import Derived.ShutString
import Derived.ChangeOld
import Derived.SizedLaws
namespace Go.Proofs.YtgelbihdcfgjcaaDoor
open Go.ChangeShapes Go.WideShapes Go.ChangeAt Go.RowKit
set_option maxRecDepth 20000

theorem u8_bounds {n : Int} (h : (Lit.int .u8 n).wf = true) : 0 ≤ n ∧ n ≤ 255 := bounds_u8 h

theorem bytes_of {W : World} {x : Addr} {len cap : Nat} {zs : List Int} (hl : len ≤ cap) (hz : zs.length = cap)
    (hcell : ∀ i, i < zs.length → W.cell? (x.add i) = some (.int .u8 (zs.getD i 0))) (hwz : ∀ n ∈ zs, (Lit.int .u8 n).wf = true) :
    ∃ l : List UInt8, l.length = len ∧ BAt W (some x) l := by
  refine ⟨(zs.take len).map (fun n => UInt8.ofNat n.toNat), by simp; omega, ?_⟩
  intro i hi
  have hi' : i < len := by simp at hi; omega
  have hsp : x.spot = none := by
    have h0 := World.cell?_spot (hcell 0 (by omega))
    simpa [Addr.add] using h0
  obtain ⟨b, off, sp⟩ := x
  simp only at hsp
  subst hsp
  refine ⟨b, off, rfl, ?_⟩
  have hc := hcell i (by omega)
  rw [Addr.add_lit] at hc
  rw [hc]
  congr 2
  unfold at8
  have hiz : i < zs.length := by omega
  rw [List.getD_eq_getElem?_getD, List.getD_eq_getElem?_getD, List.getElem?_map, List.getElem?_take_of_lt hi', List.getElem?_eq_getElem hiz]
  have hb := u8_bounds (hwz _ (List.getElem_mem hiz))
  simp only [Option.map_some, Option.getD_some]
  rw [UInt8.toNat_ofNat_of_lt' (by show _ < 256; omega)]
  omega
end Go.Proofs.YtgelbihdcfgjcaaDoor

/- Bytes turned into a string: what the conversion answers; the condition: the bytes can be read. -/
import Derived.Test.YtgjbebfcbpfngaaDoorWire3
import Derived.Laws.BytesString
import Derived.Laws.Cells
namespace Go.Proofs.YtgjbebfcbpfngaaDoor
open Go.RowKit

/-- The string of bytes. -/
def bstr (bs : List Int) : ByteArray := bs.foldl (fun r n => r.push (UInt8.ofNat n.toNat)) ByteArray.empty
theorem run_str {w : World} {B g n : Nat} {bs : List Int} (h : BRow w B (some ⟨g, 0, none⟩) n bs) (cap : Nat) :
    (convert 22 9 (.slice (some ⟨g, 0, none⟩) n cap)).run Tryd.prog w = .ok (.string (bstr bs)) w := by
  rw [run_convert_bytes_string w _ _ 5 _ _ _ Tryd.underlying22 Tryd.underlying5 Tryd.underlying9]
  refine run_bytesToString w ⟨g, 0, none⟩ n cap bs ?_
  obtain ⟨rfl, hc⟩ := h
  have := run_loadCells_list (P := Tryd.prog) w ⟨g, 0, none⟩ (bs.map (Value.int .u8)) (fun j v hj => by
    rw [List.getElem?_map] at hj
    obtain ⟨x, hx, rfl⟩ := Option.map_eq_some_iff.mp hj
    obtain ⟨hlt, rfl⟩ := List.getElem?_eq_some_iff.mp hx
    obtain ⟨b, o, e, _, hcell⟩ := hc (by omega)
    cases e
    have := hcell j hlt
    rw [nth_lt hlt] at this
    have ea : (⟨g, 0, none⟩ : Addr).add j = ⟨g, 0 + j, none⟩ := by
      unfold Addr.add
      split
      · simp_all
      · rfl
    rw [ea]
    exact this)
  simpa using this

end Go.Proofs.YtgjbebfcbpfngaaDoor

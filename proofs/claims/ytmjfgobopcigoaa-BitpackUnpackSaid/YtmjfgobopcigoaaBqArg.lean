/-
  What the laws' shells hand the walks: slices of unsigned 64-bit numbers and of bytes that came in, and the small integers. No walk.
-/
import Derived.Test.YtmjfgobopcigoaaBqLawP
import Derived.Test.YtmjfgobopcigoaaBqLawU
namespace Go.Proofs.Ytmjfgobopcigoaa
open Go.RowKit
set_option linter.unusedVariables false

theorem isW_of_row {w : World} {a : Option Addr} {len cap : Nat} {zs : List Int}
    (h : (a = none ∧ len = 0 ∧ cap = 0 ∧ zs = []) ∨ ∃ x, a = some x ∧ len ≤ cap ∧ cap ≤ maxLen ∧ zs.length = cap ∧ (∀ i, i < zs.length → w.cell? (x.add i) = some (.int .u64 (zs.getD i 0))) ∧ ∀ n ∈ zs, (Lit.int .u64 n).wf = true) :
    ∃ l : List Nat, IsW w (.slice a len cap) l ∧ U64 l ∧ l.length = len := by
  obtain ⟨h1, h2⟩ := reads_of_words h
  refine ⟨(toWords (zs.take len)).map UInt64.toNat, ?_, U64_words _, by rw [List.length_map, h2]⟩
  unfold IsW
  rw [← wcells_words]
  exact h1
theorem sh_pack {w : World} {a : Option Addr} {len cap : Nat} {zs : List Int} (m n : Int)
    (h : (a = none ∧ len = 0 ∧ cap = 0 ∧ zs = []) ∨ ∃ x, a = some x ∧ len ≤ cap ∧ cap ≤ maxLen ∧ zs.length = cap ∧ (∀ i, i < zs.length → w.cell? (x.add i) = some (.int .u64 (zs.getD i 0))) ∧ ∀ n ∈ zs, (Lit.int .u64 n).wf = true) :
    Calls Try.prog 3 #[.slice a len cap, .int .i64 m, .int .i64 n] w fun e w' => e = .returned (.bool true) ∧ Below w.heap.size w w' := by
  obtain ⟨l, hw, hU, hl⟩ := isW_of_row h
  exact law_pack _ l m n w hw hU
theorem sh_round {w : World} {a : Option Addr} {len cap : Nat} {zs : List Int} {x : Int} (hx : (Lit.int .u8 x).wf = true)
    (h : (a = none ∧ len = 0 ∧ cap = 0 ∧ zs = []) ∨ ∃ x, a = some x ∧ len ≤ cap ∧ cap ≤ maxLen ∧ zs.length = cap ∧ (∀ i, i < zs.length → w.cell? (x.add i) = some (.int .u64 (zs.getD i 0))) ∧ ∀ n ∈ zs, (Lit.int .u64 n).wf = true) :
    Calls Try.prog 5 #[.slice a len cap, .int .u8 x] w fun e w' => e = .returned (.bool true) ∧ Below w.heap.size w w' := by
  obtain ⟨l, hw, hU, hl⟩ := isW_of_row h
  have hb := wf_u8 hx
  obtain ⟨X, rfl⟩ := Int.eq_ofNat_of_zero_le hb.1
  exact law_roundtrip _ l X w hw hU (by omega)
theorem sh_trunc {w : World} {a : Option Addr} {len cap : Nat} {zs : List Int} {x : Int} (hx : (Lit.int .u8 x).wf = true)
    (h : (a = none ∧ len = 0 ∧ cap = 0 ∧ zs = []) ∨ ∃ x, a = some x ∧ len ≤ cap ∧ cap ≤ maxLen ∧ zs.length = cap ∧ (∀ i, i < zs.length → w.cell? (x.add i) = some (.int .u64 (zs.getD i 0))) ∧ ∀ n ∈ zs, (Lit.int .u64 n).wf = true) :
    Calls Try.prog 6 #[.slice a len cap, .int .u8 x] w fun e w' => e = .returned (.bool true) ∧ Below w.heap.size w w' := by
  obtain ⟨l, hw, hU, hl⟩ := isW_of_row h
  have hb := wf_u8 hx
  obtain ⟨X, rfl⟩ := Int.eq_ofNat_of_zero_le hb.1
  exact law_truncates _ l X w hw hU (by omega)
theorem sh_canon {w : World} {a : Option Addr} {len cap : Nat} {zs : List Int} (n m : Int)
    (h : (a = none ∧ len = 0 ∧ cap = 0 ∧ zs = []) ∨ ∃ x, a = some x ∧ len ≤ cap ∧ cap ≤ maxLen ∧ zs.length = cap ∧ (∀ i, i < zs.length → w.cell? (x.add i) = some (.int .u8 (zs.getD i 0))) ∧ ∀ n ∈ zs, (Lit.int .u8 n).wf = true) :
    Calls Try.prog 7 #[.slice a len cap, .int .i64 n, .int .i64 m] w fun e w' => e = .returned (.bool true) ∧ Below w.heap.size w w' := by
  obtain ⟨hv, hlen, _⟩ := isBytes_of_row h
  have h1 := law_canonical a cap (toBytes (zs.take len)) n m w (by rw [hlen]; exact hv)
  rw [hlen] at h1
  exact h1
theorem sh_unpack {w : World} {a : Option Addr} {len cap : Nat} {zs : List Int} (n m i : Int)
    (h : (a = none ∧ len = 0 ∧ cap = 0 ∧ zs = []) ∨ ∃ x, a = some x ∧ len ≤ cap ∧ cap ≤ maxLen ∧ zs.length = cap ∧ (∀ i, i < zs.length → w.cell? (x.add i) = some (.int .u8 (zs.getD i 0))) ∧ ∀ n ∈ zs, (Lit.int .u8 n).wf = true) :
    Calls Try.prog 4 #[.slice a len cap, .int .i64 n, .int .i64 m, .int .i64 i] w fun e w' => e = .returned (.bool true) ∧ Below w.heap.size w w' := by
  obtain ⟨hv, hlen, _⟩ := isBytes_of_row h
  have h1 := law_unpack a cap (toBytes (zs.take len)) n m i w (by rw [hlen]; exact hv)
  rw [hlen] at h1
  exact h1
end Go.Proofs.Ytmjfgobopcigoaa

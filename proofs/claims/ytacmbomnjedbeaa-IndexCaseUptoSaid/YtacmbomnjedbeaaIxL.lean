/- index: sets of three bytes. -/
import Derived.Test.YtacmbomnjedbeaaIxC
import Derived.DeepKeys4
namespace Go.Proofs.Ytacmbomnjedbeaa
open Go.RowKit Go.Maps Go.WideMaps
set_option maxRecDepth 100000

theorem laid_ : laidOutB Try.prog = true := by kernel_rfl
theorem cells3 : Try.prog.cellsOf 64 = 3 := by kernel_rfl
theorem cells1 : Try.prog.cellsOf 5 = 1 := by kernel_rfl
theorem wide3 : (match Try.prog.underlying 64 with | some (.array _ _) | some (.struct _) => true | _ => false) = true := by rw [Try.underlying64]
theorem key3K : Keyed Try.prog 64 := Keyed.of_law (deep_law_laid laid_ (m := 2) (by omega) (of_decide_eq_true (by kernel_rfl)) (by kernel_rfl) wide3)
abbrev v3 (a b c : UInt8) : Value := .agg #[bv a, bv b, bv c]
def gk (a b c : UInt8) : Lit := .string (keyBytes [.int .u8 a.toNat, .int .u8 b.toNat, .int .u8 c.toNat])
theorem wf8 (a : UInt8) : (Lit.int .u8 (a.toNat : Int)).wf = true := by
  have h : ∀ n : Nat, n < 256 → (Lit.int .u8 (n : Int)).wf = true := by decide
  exact h _ a.toNat_lt
theorem kt3 : Try.prog.keyType 64 = true := by kernel_rfl
theorem key3 (a b c : UInt8) : keyOf Try.prog 64 (v3 a b c) = some (gk a b c) := by
  obtain ⟨n, hn⟩ : ∃ n, Try.prog.types.size + 1 = n + 2 := ⟨Try.prog.types.size - 1, by
    have : 1 ≤ Try.prog.types.size := of_decide_eq_true (by kernel_rfl)
    omega⟩
  unfold keyOf
  rw [Try.underlying64]
  simp only [hn]
  simp [Value.formed, Try.underlying64, Try.underlying5, cells3, cells1, Program.keyLits, Value.cells, List.range_succ, gk, kt3, wf8]
theorem key3_inv {key : Value} {kl : Lit} (h : keyOf Try.prog 64 key = some kl) : ∃ x : UInt8 × UInt8 × UInt8, key = v3 x.1 x.2.1 x.2.2 := by
  obtain ⟨n, hn⟩ : ∃ n, Try.prog.types.size + 1 = n + 2 := ⟨Try.prog.types.size - 1, by
    have : 1 ≤ Try.prog.types.size := of_decide_eq_true (by kernel_rfl)
    omega⟩
  unfold keyOf at h
  rw [Try.underlying64] at h
  simp only [hn] at h
  cases key with
  | agg cs =>
    obtain ⟨l⟩ := cs
    simp [Value.formed, Try.underlying64, cells3, kt3, Value.cells] at h
    obtain ⟨hl, ls, hk, -⟩ := h
    match l, hl with
    | [x, y, z], _ =>
      have hu : ∀ v : Value, (∃ q, Try.prog.keyLits (n + 1) 5 [v] = some q) → ∃ a : UInt8, v = bv a := fun v ⟨q, hq⟩ => by
        cases v <;> simp [Program.keyLits, Try.underlying5] at hq
        rename_i q0 m h0
        obtain ⟨⟨rfl, hw⟩, _⟩ := hq
        have h2 : 0 ≤ m ∧ m < 256 := by
          have e1 : IntKind.u8.min = 0 := rfl
          have e2 : IntKind.u8.max = 255 := rfl
          simp [Lit.wf] at hw
          omega
        exact ⟨UInt8.ofNat m.toNat, by
          have h3 : ((UInt8.ofNat m.toNat).toNat : Int) = m := by
            rw [UInt8.toNat_ofNat']
            omega
          show Value.int .u8 m = .int .u8 ((UInt8.ofNat m.toNat).toNat : Int)
          rw [h3]⟩
      have : (∃ q, Try.prog.keyLits (n + 1) 5 [x] = some q) ∧ (∃ q, Try.prog.keyLits (n + 1) 5 [y] = some q) ∧ (∃ q, Try.prog.keyLits (n + 1) 5 [z] = some q) := by
        have e : Try.prog.keyLits (n + 1 + 1) 64 [x, y, z] = ((List.range 3).mapM fun i => Try.prog.keyLits (n + 1) 5 (([x, y, z].drop (i * 1)).take 1)).map List.flatten := by
          conv => lhs; unfold Program.keyLits
          rw [Try.underlying64]
          simp only [cells3, cells1, List.length_cons, List.length_nil, Nat.reduceAdd, if_true]
        rw [e] at hk
        obtain ⟨L, hL, -⟩ := Option.map_eq_some_iff.1 hk
        have e3 : List.range 3 = [0, 1, 2] := rfl
        rw [e3] at hL
        simp only [List.mapM_cons, List.mapM_nil, Option.bind_eq_bind, Option.bind_eq_some_iff] at hL
        obtain ⟨q1, h1, l2, ⟨q2, h2, l3, ⟨q3, h3, -⟩, -⟩, -⟩ := hL
        exact ⟨⟨q1, h1⟩, ⟨q2, h2⟩, ⟨q3, h3⟩⟩
      obtain ⟨a, rfl⟩ := hu x this.1
      obtain ⟨b, rfl⟩ := hu y this.2.1
      obtain ⟨c, rfl⟩ := hu z this.2.2
      exact ⟨(a, b, c), rfl⟩
  | _ => simp [Value.formed, Try.underlying64] at h
end Go.Proofs.Ytacmbomnjedbeaa

/- block: the law Encodes. -/
import Derived.Test.YtlfooppmdgddkaaCelQ
namespace Go.Proofs.Ytlfooppmdgddkaa
open Go.RowKit
set_option maxRecDepth 100000

theorem OwnR.lit0 {α : Type} (f : α → List Value) (k : Nat) (w : World) (e : TypeId) : OwnR f k (w.alloc (.cells #[] e)) e (.slice (some ⟨w.heap.size, 0, none⟩) 0 0) [] :=
  ⟨by simp, .inr ⟨w.heap.size, 0, #[], rfl, Nat.zero_le _, heap_alloc_new w _, Nat.zero_le _, Nat.zero_le _, by simp, by simp⟩⟩
theorem flat_ok {L : List Ce} : ∀ u ∈ L.flatMap cel, u.oneCell' = true := by
  intro u hu
  obtain ⟨c, _, hc⟩ := List.mem_flatMap.1 hu
  exact cel_ok c u hc

set_option maxHeartbeats 8000000 in
theorem blockEncodes_walk {w : World} {S : Nat → Prop} {v : Value} {L : List Ce} (h : Cs w S v L) (hf : LFits L) :
    Calls Try.prog 4 #[v] w fun e w' => e = .returned (.bool true) ∧ Ext w w' := by
  obtain ⟨A, c, rfl, h1, h2, h3, h4⟩ := h.open_ cel_len
  go_enter Try.func4, Try.ntmps4
  go_wp2_with fail
  refine (heavy7_any h hf).mono ?_
  rintro e w1 ⟨q, rfl, hq, x1⟩
  cases q
  case true =>
    clear hq
    go_wp2_with fail
    go_ret
    exact ⟨rfl, x1⟩
  case false =>
    obtain ⟨hw, hl⟩ := hq rfl
    clear hq
    have hn : (0 + L.length) * 48 ≤ 140737488355328 := by omega
    have z1 : Ext w (w1.alloc (.cells #[] 23)) := x1.alloc _
    have hen := fun (wx : World) (y : Value) (T : Nat → Prop) (hy : Cs wx T y L) => encode_any hy (by omega)
    have hre := fun (wx : World) (hx : Ext w wx) => rencode_any (h.ext hx) (by omega)
    obtain ⟨R, hR⟩ : ∃ R, R = riseN L := ⟨_, rfl⟩
    obtain ⟨E, hE⟩ : ∃ E, E = encR L := ⟨_, rfl⟩
    rw [← hR, ← hE] at hen hre
    clear hR hE
    have hee : (E == E) = true := by simp
    have hrr : ((R : Int) == (R : Int)) = true := by simp
    go_wp2_with ((with_reducible show wpList _ _ _ (⟨some 12, _, _, _, _, _⟩ :: _) _ _); refine wp_appk tyC (OwnR.lit0 cel 4 w1 23) (h.ext z1) flat_ok rfl (.tmp 10) (.tmp 11) rfl rfl rfl hn ?_; intro v2 w2 k1 k2 k3)
    have o2 : OwnC w2 v2 L := by
      show OwnK w2 23 4 v2 L.length (L.flatMap cel)
      simpa using k1
    have x2 : Ext w w2 := z1.trans k2 (fun _ _ h => h) (fun i hi hF => by
      have : w1.heap.size = i := Option.some.inj hF
      have := x1.size
      omega)
    refine (hen _ _ _ o2.rc).mono ?_
    rintro e w3 ⟨v3, rfl, o3, -, x3⟩
    replace x3 := ext_trans x2 x3
    clear k1 k2 k3 hen
    go_wp2_with fail
    refine (hre _ x3).mono ?_
    rintro e w4 ⟨v4, rfl, o4, -, x4⟩
    have y3 := run_conv (P := Try.prog) Try.underlying30 Try.underlying5 Try.underlying9 (o3.sl.ext x4)
    have y4 := run_conv (P := Try.prog) Try.underlying30 Try.underlying5 Try.underlying9 o4.sl
    have x0 := ext_trans x3 x4
    clear hre o3 o4 x3 x4
    go_wp2_with fail
    refine (known7_any).mono ?_
    rintro e w7 ⟨rfl, x7⟩
    go_wp2_with fail
    go_ret
    exact ⟨rfl, ext_trans x0 x7⟩
end Go.Proofs.Ytlfooppmdgddkaa

/- disk: a range over files; a crash. -/
import Derived.Test.YtnmfkfjeihjkeaaDkN
import Derived.Test.YtnmfkfjeihjkeaaIxF
import Derived.StillTailTactics
namespace Go.Proofs.Ytnmfkfjeihjkeaa
open Go.RowKit Go.Maps Go.WideMaps
set_option maxRecDepth 100000

theorem wp_nextF {w : World} {ops : Array Oper} {rest : List Oper} {o : Oper} {a : Act} {Q : Exit → Act → World → Prop} {bm r n : Nat} {D : DataW Unit} {left : Lit → Bool} {cnt : Nat} {L : Fis} {G : Lay} (hof : FilesOf D L G)
    (hg : o.guard = none) (it : Operand) (hop : o.op = Op.next it false) (hit : a.eval it = .pointer (some ⟨r, 0, none⟩)) (h : w.ranges Try.prog 9 ptrElem bm r n D left cnt)
    (hDone : cnt = 0 → (∀ kl, left kl = false) → wpList Try.prog ops Q rest (a.put o.dst (.tuple #[.bool false])) w)
    (hMore : ∀ (x : List UInt8) (w' : World) (cnt' : Nat), x ∈ nms L → left (.string x) = true → w'.ranges Try.prog 9 ptrElem bm r n D (fun z => left z && !z.sameKey (.string x)) cnt' → cnt' < cnt → Mod (fun k => k = r) w w' → w'.heap.size = w.heap.size →
      (Instr.entry (.pointer (some ⟨r, 0, none⟩))).run Try.prog w' = .ok (.tuple #[sv x, pv (G x).1]) w' → wpList Try.prog ops Q rest (a.put o.dst (.tuple #[.bool true, sv x, pv (G x).1])) w') : wpList Try.prog ops Q (o :: rest) a w := by
  refine wpList_next_ranges w hg it hop 9 keyS ptrElem sv pvo invS ptr_some bm r n D left cnt hit h hDone ?_
  intro x c kl y w' cnt' hkey hlk hv hat hrg hlt hgr hsz hen
  obtain ⟨rfl, _⟩ := keyIs hkey
  have hin : x ∈ nms L := by
    have := has_true_of_atKey hat
    rw [hof.has] at this
    simpa using this
  have hy := (hat .nil).symm.trans (hof.key x hin)
  obtain ⟨y1, ps⟩ := y
  simp only at hy
  subst hy
  have hc := ptr_inv hv
  rw [hc] at hen ⊢
  exact hMore x w' cnt' hin hlk hrg hlt (Mod.of_grown hgr fun k e => by injection e with e; exact e.symm) hsz hen
theorem Blk.ne_iter {H : Type} {P : Program} {k : TypeId} {R : Value → Option (DataW H × List MemPlace)} {w : World} {b r n : Nat} {D : DataW H} {left : Lit → Bool} {cnt g : Nat} {t : TypeId} {cs : Array Value} (h : Blk w g t cs) (hm : w.ranges P k R b r n D left cnt) : g ≠ r := by
  rintro rfl
  obtain ⟨es, clock, since, seen, c0, hb, F', hs, hD, hr, rest⟩ := hm
  unfold Blk at h
  rw [h] at hr
  cases hr

def crashN (draw : Int) (f : Fi) : Nat := f.last + (max draw 0).toNat % (f.b.length - f.last + 1)
def crashF (draw : Int) (f : Fi) : Fi := ⟨f.name, f.b.take (crashN draw f), crashN draw f⟩
def crashD (draw : Int) (d : Ds) : Ds := { d with L := d.L.map (crashF draw), fu := false, left := 0 }
theorem crashN_le (draw : Int) {f : Fi} (h : f.last ≤ f.b.length) : f.last ≤ crashN draw f ∧ crashN draw f ≤ f.b.length := by
  unfold crashN
  have := Nat.mod_lt (max draw 0).toNat (show 0 < f.b.length - f.last + 1 by omega)
  omega
/-- Those that have come are crashed. -/
def crashL (draw : Int) (left : Lit → Bool) (L : Fis) : Fis := L.map fun f => if left (.string f.name) then f else crashF draw f
theorem crashL_name (draw : Int) (left : Lit → Bool) (f : Fi) : (if left (.string f.name) = true then f else crashF draw f).name = f.name := by split <;> rfl
theorem nms_crashL (draw : Int) (left : Lit → Bool) (L : Fis) : nms (crashL draw left L) = nms L := by
  unfold nms crashL
  rw [List.map_map]
  exact List.map_congr_left fun f _ => crashL_name draw left f
theorem strikeS (left : Lit → Bool) (x k : List UInt8) : (left (.string k) && !(Lit.string k).sameKey (.string x)) = (left (.string k) && !(k == x)) := by
  by_cases h : k = x
  · subst h; simp [Lit.sameKey]
  · simp [Lit.sameKey, h]
theorem crashL_step {draw : Int} {left : Lit → Bool} {L : Fis} (hr : Rise L) {f : Fi} (hf : f ∈ L) (hl : left (.string f.name) = true) : crashL draw (fun z => left z && !z.sameKey (.string f.name)) L = putF (crashL draw left L) (crashF draw f) := by
  have hr1 : ∀ lf, Rise (crashL draw lf L) := fun lf => by unfold Rise; rw [nms_crashL]; exact hr
  refine eq_of_nms (hr1 _) (rise_putF (hr1 _)) fun x => ?_
  rw [mem_putF (hr1 _)]
  unfold crashL
  rw [List.mem_map, List.mem_map]
  have hne := rise_ne hr
  constructor
  · rintro ⟨g, hg, rfl⟩
    simp only [strikeS]
    by_cases e : g = f
    · subst e; left; simp
    · have hn : g.name ≠ f.name := fun h => e (by
        have h1 := getF_of_mem hr hg
        have h2 := getF_of_mem hr hf
        rw [h, h2] at h1
        exact (Option.some.inj h1).symm)
      right
      refine ⟨⟨g, hg, ?_⟩, ?_⟩
      · simp [hn]
      · rw [show (crashF draw f).name = f.name from rfl]
        split
        · exact hn
        · exact hn
  · rintro (rfl | ⟨⟨g, hg, rfl⟩, hn⟩)
    · exact ⟨f, hf, by simp [strikeS]⟩
    · refine ⟨g, hg, ?_⟩
      rw [show (crashF draw f).name = f.name from rfl, crashL_name] at hn
      simp [strikeS, hn]
theorem crashL_none (draw : Int) (left : Lit → Bool) (L : Fis) (h : ∀ kl, left kl = false) : crashL draw left L = L.map (crashF draw) := by
  unfold crashL
  exact List.map_congr_left fun f _ => by rw [h]; rfl
theorem crashL_all (draw : Int) {D : DataW Unit} {L : Fis} {G : Lay} (h : FilesOf D L G) : crashL draw (has D) L = L := by
  unfold crashL
  conv => rhs; rw [← List.map_id L]
  exact List.map_congr_left fun f hf => by rw [h.has, decide_eq_true (show f.name ∈ nms L from List.mem_map.2 ⟨f, hf, rfl⟩)]; rfl
theorem crashL_get {draw : Int} {left : Lit → Bool} {L : Fis} {x : List UInt8} (hx : x ∈ nms L) (hl : left (.string x) = true) : ∃ f ∈ L, f.name = x ∧ f ∈ crashL draw left L := by
  obtain ⟨f, hf, rfl⟩ := List.mem_map.1 hx
  exact ⟨f, hf, rfl, List.mem_map.2 ⟨f, hf, by rw [if_pos hl]⟩⟩
end Go.Proofs.Ytnmfkfjeihjkeaa

import Derived.Test.YtffibneelaeocaaGreatDoorGfc712d9c63
import Derived.Test.YtffibneelaeocaaGreatDoorGd9a7e662ff
import Derived.Test.YtffibneelaeocaaGreatDoorG797ed68ec7
import Derived.StillTailTactics
namespace Go.Proofs.YtffibneelaeocaaGreatDoor
open Go Go.RowKit
attribute [local go_sem ↓] Go.wp_at_zero Go.wp_at_succ

def o12_0 : Oper := { dst := some 42, op := Op.move (Operand.tmp 4), type := 59, pos := "ref.go:22", after := #[], guard := none }
def o12_1 : Oper := { dst := some 43, op := Op.fieldAddr 121 (Operand.tmp 7) 0, type := 0, pos := "ref.go:22", after := #[], guard := none }
def o12_2 : Oper := { dst := some 44, op := Op.load 3 (Operand.tmp 43), type := 3, pos := "ref.go:22", after := #[{ on := 1, ground := Ground.data }], guard := none }
def o12_3 : Oper := { dst := some 45, op := Op.indexAddr 59 (Operand.tmp 42) (Operand.tmp 44), type := 0, pos := "ref.go:22", after := #[{ on := 0, ground := Ground.data }, { on := 2, ground := Ground.data }], guard := none }
def o12_4 : Oper := { dst := some 46, op := Op.load 49 (Operand.tmp 45), type := 49, pos := "ref.go:22", after := #[{ on := 3, ground := Ground.data }], guard := none }
def o12_5 : Oper := { dst := some 47, op := Op.fieldAddr 121 (Operand.tmp 7) 1, type := 0, pos := "ref.go:22", after := #[], guard := none }
def o12_6 : Oper := { dst := some 48, op := Op.load 3 (Operand.tmp 47), type := 3, pos := "ref.go:22", after := #[{ on := 5, ground := Ground.data }], guard := none }
def o12_7 : Oper := { dst := some 49, op := Op.indexAddr 49 (Operand.tmp 46) (Operand.tmp 48), type := 0, pos := "ref.go:22", after := #[{ on := 4, ground := Ground.data }, { on := 6, ground := Ground.data }, { on := 0, ground := Ground.phase }, { on := 1, ground := Ground.phase }, { on := 2, ground := Ground.phase }, { on := 3, ground := Ground.phase }, { on := 4, ground := Ground.phase }, { on := 5, ground := Ground.phase }, { on := 6, ground := Ground.phase }], guard := none }
def o12_8 : Oper := { dst := none, op := Op.store 4 (Operand.tmp 49) (Operand.const (Value.bool true)), type := 0, pos := "ref.go:22", after := #[{ on := 7, ground := Ground.data }, { on := 0, ground := Ground.phase }, { on := 1, ground := Ground.phase }, { on := 2, ground := Ground.phase }, { on := 3, ground := Ground.phase }, { on := 4, ground := Ground.phase }, { on := 5, ground := Ground.phase }, { on := 6, ground := Ground.phase }], guard := none }
def opsord12 : Array Oper := #[o12_0, o12_1, o12_2, o12_3, o12_4, o12_5, o12_6, o12_7, o12_8]
set_option maxRecDepth 100000 in
set_option maxHeartbeats 8000000 in
theorem ord12_any {O X n x y : Nat} (h0x : (0 : Int) ≤ x) (hlx : (x : Int) < n) (h0y : (0 : Int) ≤ y) (hly : (y : Int) < n) {v0 : Value} (Q : Exit → Act → World → Prop) (W : World) (hS : ∀ w', Below W.heap.size W w' → w'.cell? ⟨X, 0, none⟩ = some (.int .i64 (x : Nat)) ∧ w'.cell? ⟨X, 1, none⟩ = some (.int .i64 (y : Nat)) ∧ w'.cell? ⟨O, x, none⟩ = some (.slice (some ⟨O + 1 + x, 0, none⟩) n n)) (e0 : W.drew.cell? ⟨O + 1 + x, y, none⟩ = some v0) (f0 : W.drew.frozen? ⟨O + 1 + x, y, none⟩ = false) (hT : (fun w' : World => w'.cell? ⟨X, 0, none⟩ = some (.int .i64 (x : Nat)) ∧ w'.cell? ⟨X, 1, none⟩ = some (.int .i64 (y : Nat)) ∧ w'.cell? ⟨O, x, none⟩ = some (.slice (some ⟨O + 1 + x, 0, none⟩) n n)) (W.drew.setCell ⟨O + 1 + x, y, none⟩ (.bool true))) (x0 x1 x2 x3 x5 x6 x8 x9 x10 x11 x12 x13 x14 x15 x16 x17 x18 x19 x20 x21 x22 x23 x24 x25 x26 x27 x28 x29 x30 x31 x32 x33 x34 x35 x36 x37 x38 x39 x40 x41 x42 x43 x44 x45 x46 x47 x48 x49 x50 x51 x52 x53 x54 x55 x56 x57 x58 x59 x60 x61 x62 x63 x64 x65 x66 x67 x68 x69 x70 x71 x72 x73 x74 x75 x76 x77 x78 x79 x80 x81 x82 x83 x84 x85 x86 x87 x88 x89 x90 x91 x92 x93 x94 x95 x96 x97 x98 x99 x100 x101 x102 x103 x104 x105 x106 x107 : Value)
    (hQ : ∀ (u42 u43 u44 u45 u46 u47 u48 u49 : Value), Q .normal { tmps := #[x0, x1, x2, x3, .slice (some ⟨O, 0, none⟩) n n, x5, x6, .pointer (some ⟨X, 0, none⟩), x8, x9, x10, x11, x12, x13, x14, x15, x16, x17, x18, x19, x20, x21, x22, x23, x24, x25, x26, x27, x28, x29, x30, x31, x32, x33, x34, x35, x36, x37, x38, x39, x40, x41, u42, u43, u44, u45, u46, u47, u48, u49, x50, x51, x52, x53, x54, x55, x56, x57, x58, x59, x60, x61, x62, x63, x64, x65, x66, x67, x68, x69, x70, x71, x72, x73, x74, x75, x76, x77, x78, x79, x80, x81, x82, x83, x84, x85, x86, x87, x88, x89, x90, x91, x92, x93, x94, x95, x96, x97, x98, x99, x100, x101, x102, x103, x104, x105, x106, x107], defers := [] } (W.drew.setCell ⟨O + 1 + x, y, none⟩ (.bool true))) :
    (Code.region 12 opsord12 true).wp Tryz.prog Q { tmps := #[x0, x1, x2, x3, .slice (some ⟨O, 0, none⟩) n n, x5, x6, .pointer (some ⟨X, 0, none⟩), x8, x9, x10, x11, x12, x13, x14, x15, x16, x17, x18, x19, x20, x21, x22, x23, x24, x25, x26, x27, x28, x29, x30, x31, x32, x33, x34, x35, x36, x37, x38, x39, x40, x41, x42, x43, x44, x45, x46, x47, x48, x49, x50, x51, x52, x53, x54, x55, x56, x57, x58, x59, x60, x61, x62, x63, x64, x65, x66, x67, x68, x69, x70, x71, x72, x73, x74, x75, x76, x77, x78, x79, x80, x81, x82, x83, x84, x85, x86, x87, x88, x89, x90, x91, x92, x93, x94, x95, x96, x97, x98, x99, x100, x101, x102, x103, x104, x105, x106, x107], defers := [] } W := by
  unfold opsord12
  refine wp_region_noPanic ?_
  refine wp_region_held_drew (S := fun w' => w'.cell? ⟨X, 0, none⟩ = some (.int .i64 (x : Nat)) ∧ w'.cell? ⟨X, 1, none⟩ = some (.int .i64 (y : Nat)) ∧ w'.cell? ⟨O, x, none⟩ = some (.slice (some ⟨O + 1 + x, 0, none⟩) n n)) (by kernel_rfl) (hS _ (Below.refl _ W).drew) (fun hHeld => ?_)
  refine wpAnyH_take (i := 0) (oi := o12_0) (v := .slice (some ⟨O, 0, none⟩) n n) rfl (by kernel_rfl) (by kernel_rfl) (by kernel_rfl) (fun _ _ _ h => h) (Or.inl ⟨by rfl, by (intro w hSw; (try dsimp only at hSw); unfold o12_0; go_simp)⟩) (by assumption) ?_
  try simp only [o12_0, Act.put, List.setIfInBounds_toArray, List.set_cons_zero, List.set_cons_succ]
  refine wpAnyH_take (i := 1) (oi := o12_1) (v := .pointer (some ⟨X, 0, none⟩)) rfl (by kernel_rfl) (by kernel_rfl) (by kernel_rfl) (fun _ _ _ h => h) (Or.inl ⟨by rfl, by (intro w hSw; (try dsimp only at hSw); unfold o12_1; go_simp)⟩) (by assumption) ?_
  try simp only [o12_1, Act.put, List.setIfInBounds_toArray, List.set_cons_zero, List.set_cons_succ]
  refine wpAnyH_take (i := 2) (oi := o12_2) (v := .int .i64 (x : Nat)) rfl (by kernel_rfl) (by kernel_rfl) (by kernel_rfl) (fun _ _ _ h => h) (Or.inl ⟨by rfl, by (intro w hSw; (try dsimp only at hSw); unfold o12_2; go_simp)⟩) (by assumption) ?_
  try simp only [o12_2, Act.put, List.setIfInBounds_toArray, List.set_cons_zero, List.set_cons_succ]
  refine wpAnyH_take (i := 3) (oi := o12_3) (v := .pointer (some ⟨O, x, none⟩)) rfl (by kernel_rfl) (by kernel_rfl) (by kernel_rfl) (fun _ _ _ h => h) (Or.inl ⟨by rfl, by (intro w hSw; (try dsimp only at hSw); unfold o12_3; go_simp)⟩) (by assumption) ?_
  try simp only [o12_3, Act.put, List.setIfInBounds_toArray, List.set_cons_zero, List.set_cons_succ]
  refine wpAnyH_take (i := 4) (oi := o12_4) (v := .slice (some ⟨O + 1 + x, 0, none⟩) n n) rfl (by kernel_rfl) (by kernel_rfl) (by kernel_rfl) (fun _ _ _ h => h) (Or.inl ⟨by rfl, by (intro w hSw; (try dsimp only at hSw); unfold o12_4; go_simp)⟩) (by assumption) ?_
  try simp only [o12_4, Act.put, List.setIfInBounds_toArray, List.set_cons_zero, List.set_cons_succ]
  refine wpAnyH_take (i := 5) (oi := o12_5) (v := .pointer (some ⟨X, 1, none⟩)) rfl (by kernel_rfl) (by kernel_rfl) (by kernel_rfl) (fun _ _ _ h => h) (Or.inl ⟨by rfl, by (intro w hSw; (try dsimp only at hSw); unfold o12_5; go_simp)⟩) (by assumption) ?_
  try simp only [o12_5, Act.put, List.setIfInBounds_toArray, List.set_cons_zero, List.set_cons_succ]
  refine wpAnyH_take (i := 6) (oi := o12_6) (v := .int .i64 (y : Nat)) rfl (by kernel_rfl) (by kernel_rfl) (by kernel_rfl) (fun _ _ _ h => h) (Or.inl ⟨by rfl, by (intro w hSw; (try dsimp only at hSw); unfold o12_6; go_simp)⟩) (by assumption) ?_
  try simp only [o12_6, Act.put, List.setIfInBounds_toArray, List.set_cons_zero, List.set_cons_succ]
  refine wpAnyH_take (i := 7) (oi := o12_7) (v := .pointer (some ⟨O + 1 + x, y, none⟩)) rfl (by kernel_rfl) (by kernel_rfl) (by kernel_rfl) (fun _ _ _ h => h) (Or.inl ⟨by rfl, by (intro w hSw; (try dsimp only at hSw); unfold o12_7; go_simp)⟩) (by assumption) ?_
  try simp only [o12_7, Act.put, List.setIfInBounds_toArray, List.set_cons_zero, List.set_cons_succ]
  refine wpAnyH_ready (rs := [8]) (by kernel_rfl) (by simp) (AllReadyH.cons (o := o12_8) rfl (fun K hK => ?_) AllReadyH.nil)
  unfold o12_8
  go_simp
  refine hK.out _ _ (hT) (fun hHeld => ?_)
  clear hK K
  try simp only [o12_8]
  refine wpAnyH_done (by kernel_rfl) ?_ _
  exact hQ _ _ _ _ _ _ _ _ 

def o13_0 : Oper := { dst := some 50, op := Op.move (Operand.tmp 4), type := 59, pos := "ref.go:23", after := #[], guard := none }
def o13_1 : Oper := { dst := some 51, op := Op.fieldAddr 121 (Operand.tmp 7) 0, type := 0, pos := "ref.go:23", after := #[], guard := none }
def o13_2 : Oper := { dst := some 52, op := Op.load 3 (Operand.tmp 51), type := 3, pos := "ref.go:23", after := #[{ on := 1, ground := Ground.data }], guard := none }
def o13_3 : Oper := { dst := some 53, op := Op.call { callee := Callee.value (Operand.func 90), args := #[Operand.tmp 52], argTypes := #[3] }, type := 3, pos := "ref.go:23", after := #[{ on := 2, ground := Ground.data }], guard := none }
def o13_4 : Oper := { dst := some 54, op := Op.indexAddr 59 (Operand.tmp 50) (Operand.tmp 53), type := 0, pos := "ref.go:23", after := #[{ on := 0, ground := Ground.data }, { on := 3, ground := Ground.data }], guard := none }
def o13_5 : Oper := { dst := some 55, op := Op.load 49 (Operand.tmp 54), type := 49, pos := "ref.go:23", after := #[{ on := 4, ground := Ground.data }], guard := none }
def o13_6 : Oper := { dst := some 56, op := Op.fieldAddr 121 (Operand.tmp 7) 1, type := 0, pos := "ref.go:23", after := #[], guard := none }
def o13_7 : Oper := { dst := some 57, op := Op.load 3 (Operand.tmp 56), type := 3, pos := "ref.go:23", after := #[{ on := 6, ground := Ground.data }], guard := none }
def o13_8 : Oper := { dst := some 58, op := Op.call { callee := Callee.value (Operand.func 90), args := #[Operand.tmp 57], argTypes := #[3] }, type := 3, pos := "ref.go:23", after := #[{ on := 7, ground := Ground.data }, { on := 3, ground := Ground.chain }], guard := none }
def o13_9 : Oper := { dst := some 59, op := Op.indexAddr 49 (Operand.tmp 55) (Operand.tmp 58), type := 0, pos := "ref.go:23", after := #[{ on := 5, ground := Ground.data }, { on := 8, ground := Ground.data }, { on := 0, ground := Ground.phase }, { on := 1, ground := Ground.phase }, { on := 2, ground := Ground.phase }, { on := 3, ground := Ground.phase }, { on := 4, ground := Ground.phase }, { on := 5, ground := Ground.phase }, { on := 6, ground := Ground.phase }, { on := 7, ground := Ground.phase }, { on := 8, ground := Ground.phase }], guard := none }
def o13_10 : Oper := { dst := none, op := Op.store 4 (Operand.tmp 59) (Operand.const (Value.bool true)), type := 0, pos := "ref.go:23", after := #[{ on := 9, ground := Ground.data }, { on := 8, ground := Ground.chain }, { on := 0, ground := Ground.phase }, { on := 1, ground := Ground.phase }, { on := 2, ground := Ground.phase }, { on := 3, ground := Ground.phase }, { on := 4, ground := Ground.phase }, { on := 5, ground := Ground.phase }, { on := 6, ground := Ground.phase }, { on := 7, ground := Ground.phase }, { on := 8, ground := Ground.phase }], guard := none }
def opsord13 : Array Oper := #[o13_0, o13_1, o13_2, o13_3, o13_4, o13_5, o13_6, o13_7, o13_8, o13_9, o13_10]
set_option maxRecDepth 100000 in
set_option maxHeartbeats 8000000 in
theorem ord13_any {O X n x y : Nat} (hx62 : x < 4611686018427387904) (hy62 : y < 4611686018427387904) (h0x : (0 : Int) ≤ (inv x : Nat)) (hlx : ((inv x : Nat) : Int) < n) (h0y : (0 : Int) ≤ (inv y : Nat)) (hly : ((inv y : Nat) : Int) < n) {v0 : Value} (Q : Exit → Act → World → Prop) (W : World) (hS : ∀ w', Below W.heap.size W w' → w'.cell? ⟨X, 0, none⟩ = some (.int .i64 (x : Nat)) ∧ w'.cell? ⟨X, 1, none⟩ = some (.int .i64 (y : Nat)) ∧ w'.cell? ⟨O, inv x, none⟩ = some (.slice (some ⟨O + 1 + inv x, 0, none⟩) n n)) (e0 : W.drew.cell? ⟨O + 1 + inv x, inv y, none⟩ = some v0) (f0 : W.drew.frozen? ⟨O + 1 + inv x, inv y, none⟩ = false) (hT : (fun w' : World => w'.cell? ⟨X, 0, none⟩ = some (.int .i64 (x : Nat)) ∧ w'.cell? ⟨X, 1, none⟩ = some (.int .i64 (y : Nat)) ∧ w'.cell? ⟨O, inv x, none⟩ = some (.slice (some ⟨O + 1 + inv x, 0, none⟩) n n)) (W.drew.setCell ⟨O + 1 + inv x, inv y, none⟩ (.bool true))) (x0 x1 x2 x3 x5 x6 x8 x9 x10 x11 x12 x13 x14 x15 x16 x17 x18 x19 x20 x21 x22 x23 x24 x25 x26 x27 x28 x29 x30 x31 x32 x33 x34 x35 x36 x37 x38 x39 x40 x41 x42 x43 x44 x45 x46 x47 x48 x49 x50 x51 x52 x53 x54 x55 x56 x57 x58 x59 x60 x61 x62 x63 x64 x65 x66 x67 x68 x69 x70 x71 x72 x73 x74 x75 x76 x77 x78 x79 x80 x81 x82 x83 x84 x85 x86 x87 x88 x89 x90 x91 x92 x93 x94 x95 x96 x97 x98 x99 x100 x101 x102 x103 x104 x105 x106 x107 : Value)
    (hQ : ∀ (u50 u51 u52 u53 u54 u55 u56 u57 u58 u59 : Value), Q .normal { tmps := #[x0, x1, x2, x3, .slice (some ⟨O, 0, none⟩) n n, x5, x6, .pointer (some ⟨X, 0, none⟩), x8, x9, x10, x11, x12, x13, x14, x15, x16, x17, x18, x19, x20, x21, x22, x23, x24, x25, x26, x27, x28, x29, x30, x31, x32, x33, x34, x35, x36, x37, x38, x39, x40, x41, x42, x43, x44, x45, x46, x47, x48, x49, u50, u51, u52, u53, u54, u55, u56, u57, u58, u59, x60, x61, x62, x63, x64, x65, x66, x67, x68, x69, x70, x71, x72, x73, x74, x75, x76, x77, x78, x79, x80, x81, x82, x83, x84, x85, x86, x87, x88, x89, x90, x91, x92, x93, x94, x95, x96, x97, x98, x99, x100, x101, x102, x103, x104, x105, x106, x107], defers := [] } (W.drew.setCell ⟨O + 1 + inv x, inv y, none⟩ (.bool true))) :
    (Code.region 13 opsord13 true).wp Tryz.prog Q { tmps := #[x0, x1, x2, x3, .slice (some ⟨O, 0, none⟩) n n, x5, x6, .pointer (some ⟨X, 0, none⟩), x8, x9, x10, x11, x12, x13, x14, x15, x16, x17, x18, x19, x20, x21, x22, x23, x24, x25, x26, x27, x28, x29, x30, x31, x32, x33, x34, x35, x36, x37, x38, x39, x40, x41, x42, x43, x44, x45, x46, x47, x48, x49, x50, x51, x52, x53, x54, x55, x56, x57, x58, x59, x60, x61, x62, x63, x64, x65, x66, x67, x68, x69, x70, x71, x72, x73, x74, x75, x76, x77, x78, x79, x80, x81, x82, x83, x84, x85, x86, x87, x88, x89, x90, x91, x92, x93, x94, x95, x96, x97, x98, x99, x100, x101, x102, x103, x104, x105, x106, x107], defers := [] } W := by
  unfold opsord13
  refine wp_region_noPanic ?_
  refine wp_region_held_drew (S := fun w' => w'.cell? ⟨X, 0, none⟩ = some (.int .i64 (x : Nat)) ∧ w'.cell? ⟨X, 1, none⟩ = some (.int .i64 (y : Nat)) ∧ w'.cell? ⟨O, inv x, none⟩ = some (.slice (some ⟨O + 1 + inv x, 0, none⟩) n n)) (by kernel_rfl) (hS _ (Below.refl _ W).drew) (fun hHeld => ?_)
  refine wpAnyH_take (i := 0) (oi := o13_0) (v := .slice (some ⟨O, 0, none⟩) n n) rfl (by kernel_rfl) (by kernel_rfl) (by kernel_rfl) (fun _ _ _ h => h) (Or.inl ⟨by rfl, by (intro w hSw; (try dsimp only at hSw); unfold o13_0; go_simp)⟩) (by assumption) ?_
  try simp only [o13_0, Act.put, List.setIfInBounds_toArray, List.set_cons_zero, List.set_cons_succ]
  refine wpAnyH_take (i := 1) (oi := o13_1) (v := .pointer (some ⟨X, 0, none⟩)) rfl (by kernel_rfl) (by kernel_rfl) (by kernel_rfl) (fun _ _ _ h => h) (Or.inl ⟨by rfl, by (intro w hSw; (try dsimp only at hSw); unfold o13_1; go_simp)⟩) (by assumption) ?_
  try simp only [o13_1, Act.put, List.setIfInBounds_toArray, List.set_cons_zero, List.set_cons_succ]
  refine wpAnyH_take (i := 2) (oi := o13_2) (v := .int .i64 (x : Nat)) rfl (by kernel_rfl) (by kernel_rfl) (by kernel_rfl) (fun _ _ _ h => h) (Or.inl ⟨by rfl, by (intro w hSw; (try dsimp only at hSw); unfold o13_2; go_simp)⟩) (by assumption) ?_
  try simp only [o13_2, Act.put, List.setIfInBounds_toArray, List.set_cons_zero, List.set_cons_succ]
  refine wpAnyH_take (i := 6) (oi := o13_6) (v := .pointer (some ⟨X, 1, none⟩)) rfl (by kernel_rfl) (by kernel_rfl) (by kernel_rfl) (fun _ _ _ h => h) (Or.inl ⟨by rfl, by (intro w hSw; (try dsimp only at hSw); unfold o13_6; go_simp)⟩) (by assumption) ?_
  try simp only [o13_6, Act.put, List.setIfInBounds_toArray, List.set_cons_zero, List.set_cons_succ]
  refine wpAnyH_take (i := 7) (oi := o13_7) (v := .int .i64 (y : Nat)) rfl (by kernel_rfl) (by kernel_rfl) (by kernel_rfl) (fun _ _ _ h => h) (Or.inl ⟨by rfl, by (intro w hSw; (try dsimp only at hSw); unfold o13_7; go_simp)⟩) (by assumption) ?_
  try simp only [o13_7, Act.put, List.setIfInBounds_toArray, List.set_cons_zero, List.set_cons_succ]
  refine wpAnyH_ready (rs := [3]) (by kernel_rfl) (by simp) (AllReadyH.cons (o := o13_3) rfl (fun K hK => ?_) AllReadyH.nil)
  unfold o13_3
  go_simp
  go_at_call 90
  refine (rInverse_any x hx62 _).mono ?_
  rintro e w3 ⟨rfl, rfl⟩
  refine hK.out _ _ (hHeld) (fun hHeld => ?_)
  clear hK K
  try simp only [o13_3]
  refine wpAnyH_take (i := 4) (oi := o13_4) (v := .pointer (some ⟨O, inv x, none⟩)) rfl (by kernel_rfl) (by kernel_rfl) (by kernel_rfl) (fun _ _ _ h => h) (Or.inl ⟨by rfl, by (intro w hSw; (try dsimp only at hSw); unfold o13_4; go_simp)⟩) (by assumption) ?_
  try simp only [o13_4, Act.put, List.setIfInBounds_toArray, List.set_cons_zero, List.set_cons_succ]
  refine wpAnyH_take (i := 5) (oi := o13_5) (v := .slice (some ⟨O + 1 + inv x, 0, none⟩) n n) rfl (by kernel_rfl) (by kernel_rfl) (by kernel_rfl) (fun _ _ _ h => h) (Or.inl ⟨by rfl, by (intro w hSw; (try dsimp only at hSw); unfold o13_5; go_simp)⟩) (by assumption) ?_
  try simp only [o13_5, Act.put, List.setIfInBounds_toArray, List.set_cons_zero, List.set_cons_succ]
  refine wpAnyH_ready (rs := [8]) (by kernel_rfl) (by simp) (AllReadyH.cons (o := o13_8) rfl (fun K hK => ?_) AllReadyH.nil)
  unfold o13_8
  go_simp
  go_at_call 90
  refine (rInverse_any y hy62 _).mono ?_
  rintro e w3 ⟨rfl, rfl⟩
  refine hK.out _ _ (hHeld) (fun hHeld => ?_)
  clear hK K
  try simp only [o13_8]
  refine wpAnyH_take (i := 9) (oi := o13_9) (v := .pointer (some ⟨O + 1 + inv x, inv y, none⟩)) rfl (by kernel_rfl) (by kernel_rfl) (by kernel_rfl) (fun _ _ _ h => h) (Or.inl ⟨by rfl, by (intro w hSw; (try dsimp only at hSw); unfold o13_9; go_simp)⟩) (by assumption) ?_
  try simp only [o13_9, Act.put, List.setIfInBounds_toArray, List.set_cons_zero, List.set_cons_succ]
  refine wpAnyH_ready (rs := [10]) (by kernel_rfl) (by simp) (AllReadyH.cons (o := o13_10) rfl (fun K hK => ?_) AllReadyH.nil)
  unfold o13_10
  go_simp
  refine hK.out _ _ (hT) (fun hHeld => ?_)
  clear hK K
  try simp only [o13_10]
  refine wpAnyH_done (by kernel_rfl) ?_ _
  exact hQ _ _ _ _ _ _ _ _ _ _ 

def o24_0 : Oper := { dst := some 73, op := Op.move (Operand.tmp 4), type := 59, pos := "ref.go:28", after := #[], guard := none }
def o24_1 : Oper := { dst := some 74, op := Op.move (Operand.tmp 9), type := 3, pos := "ref.go:28", after := #[], guard := none }
def o24_2 : Oper := { dst := some 75, op := Op.indexAddr 59 (Operand.tmp 73) (Operand.tmp 74), type := 0, pos := "ref.go:28", after := #[{ on := 0, ground := Ground.data }, { on := 1, ground := Ground.data }], guard := none }
def o24_3 : Oper := { dst := some 76, op := Op.load 49 (Operand.tmp 75), type := 49, pos := "ref.go:28", after := #[{ on := 2, ground := Ground.data }], guard := none }
def o24_4 : Oper := { dst := some 77, op := Op.move (Operand.tmp 10), type := 3, pos := "ref.go:28", after := #[], guard := none }
def o24_5 : Oper := { dst := some 78, op := Op.move (Operand.tmp 4), type := 59, pos := "ref.go:28", after := #[], guard := none }
def o24_6 : Oper := { dst := some 79, op := Op.move (Operand.tmp 9), type := 3, pos := "ref.go:28", after := #[], guard := none }
def o24_7 : Oper := { dst := some 80, op := Op.indexAddr 59 (Operand.tmp 78) (Operand.tmp 79), type := 0, pos := "ref.go:28", after := #[{ on := 5, ground := Ground.data }, { on := 6, ground := Ground.data }], guard := none }
def o24_8 : Oper := { dst := some 81, op := Op.load 49 (Operand.tmp 80), type := 49, pos := "ref.go:28", after := #[{ on := 7, ground := Ground.data }], guard := none }
def o24_9 : Oper := { dst := some 82, op := Op.move (Operand.tmp 10), type := 3, pos := "ref.go:28", after := #[], guard := none }
def o24_10 : Oper := { dst := some 83, op := Op.indexAddr 49 (Operand.tmp 81) (Operand.tmp 82), type := 0, pos := "ref.go:28", after := #[{ on := 8, ground := Ground.data }, { on := 9, ground := Ground.data }], guard := none }
def o24_11 : Oper := { dst := some 84, op := Op.load 4 (Operand.tmp 83), type := 4, pos := "ref.go:28", after := #[{ on := 10, ground := Ground.data }], guard := none }
def o24_12 : Oper := { dst := some 85, op := Op.move (Operand.tmp 84), type := 4, pos := "ref.go:28", after := #[{ on := 11, ground := Ground.data }], guard := none }
def o24_13 : Oper := { dst := some 86, op := Op.move (Operand.tmp 4), type := 59, pos := "ref.go:28", after := #[{ on := 12, ground := Ground.guard }], guard := some (12, false) }
def o24_14 : Oper := { dst := some 87, op := Op.move (Operand.tmp 9), type := 3, pos := "ref.go:28", after := #[{ on := 12, ground := Ground.guard }], guard := some (12, false) }
def o24_15 : Oper := { dst := some 88, op := Op.indexAddr 59 (Operand.tmp 86) (Operand.tmp 87), type := 0, pos := "ref.go:28", after := #[{ on := 13, ground := Ground.data }, { on := 14, ground := Ground.data }, { on := 12, ground := Ground.guard }], guard := some (12, false) }
def o24_16 : Oper := { dst := some 89, op := Op.load 49 (Operand.tmp 88), type := 49, pos := "ref.go:28", after := #[{ on := 15, ground := Ground.data }, { on := 12, ground := Ground.guard }], guard := some (12, false) }
def o24_17 : Oper := { dst := some 90, op := Op.move (Operand.tmp 8), type := 3, pos := "ref.go:28", after := #[{ on := 12, ground := Ground.guard }], guard := some (12, false) }
def o24_18 : Oper := { dst := some 91, op := Op.indexAddr 49 (Operand.tmp 89) (Operand.tmp 90), type := 0, pos := "ref.go:28", after := #[{ on := 16, ground := Ground.data }, { on := 17, ground := Ground.data }, { on := 12, ground := Ground.guard }], guard := some (12, false) }
def o24_19 : Oper := { dst := some 92, op := Op.load 4 (Operand.tmp 91), type := 4, pos := "ref.go:28", after := #[{ on := 18, ground := Ground.data }, { on := 12, ground := Ground.guard }], guard := some (12, false) }
def o24_20 : Oper := { dst := some 93, op := Op.move (Operand.tmp 92), type := 4, pos := "ref.go:28", after := #[{ on := 19, ground := Ground.data }, { on := 12, ground := Ground.chain }, { on := 12, ground := Ground.guard }], guard := some (12, false) }
def o24_21 : Oper := { dst := some 94, op := Op.move (Operand.tmp 4), type := 59, pos := "ref.go:28", after := #[{ on := 20, ground := Ground.guard }], guard := some (20, true) }
def o24_22 : Oper := { dst := some 95, op := Op.move (Operand.tmp 8), type := 3, pos := "ref.go:28", after := #[{ on := 20, ground := Ground.guard }], guard := some (20, true) }
def o24_23 : Oper := { dst := some 96, op := Op.indexAddr 59 (Operand.tmp 94) (Operand.tmp 95), type := 0, pos := "ref.go:28", after := #[{ on := 21, ground := Ground.data }, { on := 22, ground := Ground.data }, { on := 20, ground := Ground.guard }], guard := some (20, true) }
def o24_24 : Oper := { dst := some 97, op := Op.load 49 (Operand.tmp 96), type := 49, pos := "ref.go:28", after := #[{ on := 23, ground := Ground.data }, { on := 20, ground := Ground.guard }], guard := some (20, true) }
def o24_25 : Oper := { dst := some 98, op := Op.move (Operand.tmp 10), type := 3, pos := "ref.go:28", after := #[{ on := 20, ground := Ground.guard }], guard := some (20, true) }
def o24_26 : Oper := { dst := some 99, op := Op.indexAddr 49 (Operand.tmp 97) (Operand.tmp 98), type := 0, pos := "ref.go:28", after := #[{ on := 24, ground := Ground.data }, { on := 25, ground := Ground.data }, { on := 20, ground := Ground.guard }], guard := some (20, true) }
def o24_27 : Oper := { dst := some 100, op := Op.load 4 (Operand.tmp 99), type := 4, pos := "ref.go:28", after := #[{ on := 26, ground := Ground.data }, { on := 20, ground := Ground.guard }], guard := some (20, true) }
def o24_28 : Oper := { dst := some 101, op := Op.pick (Operand.tmp 93) (Operand.tmp 100) (Operand.const (Value.bool false)), type := 4, pos := "ref.go:28", after := #[{ on := 20, ground := Ground.data }, { on := 27, ground := Ground.data }, { on := 12, ground := Ground.guard }], guard := some (12, false) }
def o24_29 : Oper := { dst := some 102, op := Op.pick (Operand.tmp 85) (Operand.const (Value.bool true)) (Operand.tmp 101), type := 4, pos := "ref.go:28", after := #[{ on := 12, ground := Ground.data }, { on := 28, ground := Ground.data }], guard := none }
def o24_30 : Oper := { dst := some 103, op := Op.indexAddr 49 (Operand.tmp 76) (Operand.tmp 77), type := 0, pos := "ref.go:28", after := #[{ on := 3, ground := Ground.data }, { on := 4, ground := Ground.data }, { on := 0, ground := Ground.phase }, { on := 1, ground := Ground.phase }, { on := 2, ground := Ground.phase }, { on := 3, ground := Ground.phase }, { on := 4, ground := Ground.phase }, { on := 5, ground := Ground.phase }, { on := 6, ground := Ground.phase }, { on := 7, ground := Ground.phase }, { on := 8, ground := Ground.phase }, { on := 9, ground := Ground.phase }, { on := 10, ground := Ground.phase }, { on := 11, ground := Ground.phase }, { on := 12, ground := Ground.phase }, { on := 13, ground := Ground.phase }, { on := 14, ground := Ground.phase }, { on := 15, ground := Ground.phase }, { on := 16, ground := Ground.phase }, { on := 17, ground := Ground.phase }, { on := 18, ground := Ground.phase }, { on := 19, ground := Ground.phase }, { on := 20, ground := Ground.phase }, { on := 21, ground := Ground.phase }, { on := 22, ground := Ground.phase }, { on := 23, ground := Ground.phase }, { on := 24, ground := Ground.phase }, { on := 25, ground := Ground.phase }, { on := 26, ground := Ground.phase }, { on := 27, ground := Ground.phase }, { on := 28, ground := Ground.phase }, { on := 29, ground := Ground.phase }], guard := none }
def o24_31 : Oper := { dst := none, op := Op.store 4 (Operand.tmp 103) (Operand.tmp 102), type := 0, pos := "ref.go:28", after := #[{ on := 30, ground := Ground.data }, { on := 29, ground := Ground.data }, { on := 20, ground := Ground.chain }, { on := 0, ground := Ground.phase }, { on := 1, ground := Ground.phase }, { on := 2, ground := Ground.phase }, { on := 3, ground := Ground.phase }, { on := 4, ground := Ground.phase }, { on := 5, ground := Ground.phase }, { on := 6, ground := Ground.phase }, { on := 7, ground := Ground.phase }, { on := 8, ground := Ground.phase }, { on := 9, ground := Ground.phase }, { on := 10, ground := Ground.phase }, { on := 11, ground := Ground.phase }, { on := 12, ground := Ground.phase }, { on := 13, ground := Ground.phase }, { on := 14, ground := Ground.phase }, { on := 15, ground := Ground.phase }, { on := 16, ground := Ground.phase }, { on := 17, ground := Ground.phase }, { on := 18, ground := Ground.phase }, { on := 19, ground := Ground.phase }, { on := 20, ground := Ground.phase }, { on := 21, ground := Ground.phase }, { on := 22, ground := Ground.phase }, { on := 23, ground := Ground.phase }, { on := 24, ground := Ground.phase }, { on := 25, ground := Ground.phase }, { on := 26, ground := Ground.phase }, { on := 27, ground := Ground.phase }, { on := 28, ground := Ground.phase }, { on := 29, ground := Ground.phase }], guard := none }
def opsord24 : Array Oper := #[o24_0, o24_1, o24_2, o24_3, o24_4, o24_5, o24_6, o24_7, o24_8, o24_9, o24_10, o24_11, o24_12, o24_13, o24_14, o24_15, o24_16, o24_17, o24_18, o24_19, o24_20, o24_21, o24_22, o24_23, o24_24, o24_25, o24_26, o24_27, o24_28, o24_29, o24_30, o24_31]
set_option maxRecDepth 100000 in
set_option maxHeartbeats 8000000 in
theorem ord24a_any {O n r s k : Nat} (h0r : (0 : Int) ≤ r) (hlr : (r : Int) < n) (h0s : (0 : Int) ≤ s) (hls : (s : Int) < n) (_h0k : (0 : Int) ≤ k) (_hlk : (k : Int) < n) {B C : Bool} (Q : Exit → Act → World → Prop) (W : World) (hS : ∀ w', Below W.heap.size W w' → w'.cell? ⟨O, r, none⟩ = some (.slice (some ⟨O + 1 + r, 0, none⟩) n n) ∧ w'.cell? ⟨O, k, none⟩ = some (.slice (some ⟨O + 1 + k, 0, none⟩) n n) ∧ w'.cell? ⟨O + 1 + r, k, none⟩ = some (.bool B) ∧ w'.cell? ⟨O + 1 + k, s, none⟩ = some (.bool C)) (e2 : W.drew.cell? ⟨O + 1 + r, s, none⟩ = some (.bool true)) (f0 : W.drew.frozen? ⟨O + 1 + r, s, none⟩ = false) (hT : (fun w' : World => w'.cell? ⟨O, r, none⟩ = some (.slice (some ⟨O + 1 + r, 0, none⟩) n n) ∧ w'.cell? ⟨O, k, none⟩ = some (.slice (some ⟨O + 1 + k, 0, none⟩) n n) ∧ w'.cell? ⟨O + 1 + r, k, none⟩ = some (.bool B) ∧ w'.cell? ⟨O + 1 + k, s, none⟩ = some (.bool C)) (W.drew.setCell ⟨O + 1 + r, s, none⟩ (.bool true))) (x0 x1 x2 x3 x5 x6 x7 x11 x12 x13 x14 x15 x16 x17 x18 x19 x20 x21 x22 x23 x24 x25 x26 x27 x28 x29 x30 x31 x32 x33 x34 x35 x36 x37 x38 x39 x40 x41 x42 x43 x44 x45 x46 x47 x48 x49 x50 x51 x52 x53 x54 x55 x56 x57 x58 x59 x60 x61 x62 x63 x64 x65 x66 x67 x68 x69 x70 x71 x72 x73 x74 x75 x76 x77 x78 x79 x80 x81 x82 x83 x84 x85 x86 x87 x88 x89 x90 x91 x92 x93 x94 x95 x96 x97 x98 x99 x100 x101 x102 x103 x104 x105 x106 x107 : Value)
    (hQ : ∀ (u73 u74 u75 u76 u77 u78 u79 u80 u81 u82 u83 u84 u85 u86 u87 u88 u89 u90 u91 u92 u93 u94 u95 u96 u97 u98 u99 u100 u101 u102 u103 : Value), Q .normal { tmps := #[x0, x1, x2, x3, .slice (some ⟨O, 0, none⟩) n n, x5, x6, x7, .int .i64 (k : Nat), .int .i64 (r : Nat), .int .i64 (s : Nat), x11, x12, x13, x14, x15, x16, x17, x18, x19, x20, x21, x22, x23, x24, x25, x26, x27, x28, x29, x30, x31, x32, x33, x34, x35, x36, x37, x38, x39, x40, x41, x42, x43, x44, x45, x46, x47, x48, x49, x50, x51, x52, x53, x54, x55, x56, x57, x58, x59, x60, x61, x62, x63, x64, x65, x66, x67, x68, x69, x70, x71, x72, u73, u74, u75, u76, u77, u78, u79, u80, u81, u82, u83, u84, u85, u86, u87, u88, u89, u90, u91, u92, u93, u94, u95, u96, u97, u98, u99, u100, u101, u102, u103, x104, x105, x106, x107], defers := [] } (W.drew.setCell ⟨O + 1 + r, s, none⟩ (.bool true))) :
    (Code.region 24 opsord24 true).wp Tryz.prog Q { tmps := #[x0, x1, x2, x3, .slice (some ⟨O, 0, none⟩) n n, x5, x6, x7, .int .i64 (k : Nat), .int .i64 (r : Nat), .int .i64 (s : Nat), x11, x12, x13, x14, x15, x16, x17, x18, x19, x20, x21, x22, x23, x24, x25, x26, x27, x28, x29, x30, x31, x32, x33, x34, x35, x36, x37, x38, x39, x40, x41, x42, x43, x44, x45, x46, x47, x48, x49, x50, x51, x52, x53, x54, x55, x56, x57, x58, x59, x60, x61, x62, x63, x64, x65, x66, x67, x68, x69, x70, x71, x72, x73, x74, x75, x76, x77, x78, x79, x80, x81, x82, x83, x84, x85, x86, x87, x88, x89, x90, x91, x92, x93, x94, x95, x96, x97, x98, x99, x100, x101, x102, x103, x104, x105, x106, x107], defers := [] } W := by
  unfold opsord24
  refine wp_region_noPanic ?_
  refine wp_region_held_drew (S := fun w' => w'.cell? ⟨O, r, none⟩ = some (.slice (some ⟨O + 1 + r, 0, none⟩) n n) ∧ w'.cell? ⟨O, k, none⟩ = some (.slice (some ⟨O + 1 + k, 0, none⟩) n n) ∧ w'.cell? ⟨O + 1 + r, k, none⟩ = some (.bool B) ∧ w'.cell? ⟨O + 1 + k, s, none⟩ = some (.bool C)) (by kernel_rfl) (hS _ (Below.refl _ W).drew) (fun hHeld => ?_)
  refine wpAnyH_take (i := 0) (oi := o24_0) (v := .slice (some ⟨O, 0, none⟩) n n) rfl (by kernel_rfl) (by kernel_rfl) (by kernel_rfl) (fun _ _ _ h => h) (Or.inl ⟨by rfl, by (intro w hSw; (try dsimp only at hSw); unfold o24_0; go_simp)⟩) (by assumption) ?_
  try simp only [o24_0, Act.put, List.setIfInBounds_toArray, List.set_cons_zero, List.set_cons_succ]
  refine wpAnyH_take (i := 1) (oi := o24_1) (v := .int .i64 (r : Nat)) rfl (by kernel_rfl) (by kernel_rfl) (by kernel_rfl) (fun _ _ _ h => h) (Or.inl ⟨by rfl, by (intro w hSw; (try dsimp only at hSw); unfold o24_1; go_simp)⟩) (by assumption) ?_
  try simp only [o24_1, Act.put, List.setIfInBounds_toArray, List.set_cons_zero, List.set_cons_succ]
  refine wpAnyH_take (i := 2) (oi := o24_2) (v := .pointer (some ⟨O, r, none⟩)) rfl (by kernel_rfl) (by kernel_rfl) (by kernel_rfl) (fun _ _ _ h => h) (Or.inl ⟨by rfl, by (intro w hSw; (try dsimp only at hSw); unfold o24_2; go_simp)⟩) (by assumption) ?_
  try simp only [o24_2, Act.put, List.setIfInBounds_toArray, List.set_cons_zero, List.set_cons_succ]
  refine wpAnyH_take (i := 3) (oi := o24_3) (v := .slice (some ⟨O + 1 + r, 0, none⟩) n n) rfl (by kernel_rfl) (by kernel_rfl) (by kernel_rfl) (fun _ _ _ h => h) (Or.inl ⟨by rfl, by (intro w hSw; (try dsimp only at hSw); unfold o24_3; go_simp)⟩) (by assumption) ?_
  try simp only [o24_3, Act.put, List.setIfInBounds_toArray, List.set_cons_zero, List.set_cons_succ]
  refine wpAnyH_take (i := 4) (oi := o24_4) (v := .int .i64 (s : Nat)) rfl (by kernel_rfl) (by kernel_rfl) (by kernel_rfl) (fun _ _ _ h => h) (Or.inl ⟨by rfl, by (intro w hSw; (try dsimp only at hSw); unfold o24_4; go_simp)⟩) (by assumption) ?_
  try simp only [o24_4, Act.put, List.setIfInBounds_toArray, List.set_cons_zero, List.set_cons_succ]
  refine wpAnyH_take (i := 5) (oi := o24_5) (v := .slice (some ⟨O, 0, none⟩) n n) rfl (by kernel_rfl) (by kernel_rfl) (by kernel_rfl) (fun _ _ _ h => h) (Or.inl ⟨by rfl, by (intro w hSw; (try dsimp only at hSw); unfold o24_5; go_simp)⟩) (by assumption) ?_
  try simp only [o24_5, Act.put, List.setIfInBounds_toArray, List.set_cons_zero, List.set_cons_succ]
  refine wpAnyH_take (i := 6) (oi := o24_6) (v := .int .i64 (r : Nat)) rfl (by kernel_rfl) (by kernel_rfl) (by kernel_rfl) (fun _ _ _ h => h) (Or.inl ⟨by rfl, by (intro w hSw; (try dsimp only at hSw); unfold o24_6; go_simp)⟩) (by assumption) ?_
  try simp only [o24_6, Act.put, List.setIfInBounds_toArray, List.set_cons_zero, List.set_cons_succ]
  refine wpAnyH_take (i := 7) (oi := o24_7) (v := .pointer (some ⟨O, r, none⟩)) rfl (by kernel_rfl) (by kernel_rfl) (by kernel_rfl) (fun _ _ _ h => h) (Or.inl ⟨by rfl, by (intro w hSw; (try dsimp only at hSw); unfold o24_7; go_simp)⟩) (by assumption) ?_
  try simp only [o24_7, Act.put, List.setIfInBounds_toArray, List.set_cons_zero, List.set_cons_succ]
  refine wpAnyH_take (i := 8) (oi := o24_8) (v := .slice (some ⟨O + 1 + r, 0, none⟩) n n) rfl (by kernel_rfl) (by kernel_rfl) (by kernel_rfl) (fun _ _ _ h => h) (Or.inl ⟨by rfl, by (intro w hSw; (try dsimp only at hSw); unfold o24_8; go_simp)⟩) (by assumption) ?_
  try simp only [o24_8, Act.put, List.setIfInBounds_toArray, List.set_cons_zero, List.set_cons_succ]
  refine wpAnyH_take (i := 9) (oi := o24_9) (v := .int .i64 (s : Nat)) rfl (by kernel_rfl) (by kernel_rfl) (by kernel_rfl) (fun _ _ _ h => h) (Or.inl ⟨by rfl, by (intro w hSw; (try dsimp only at hSw); unfold o24_9; go_simp)⟩) (by assumption) ?_
  try simp only [o24_9, Act.put, List.setIfInBounds_toArray, List.set_cons_zero, List.set_cons_succ]
  refine wpAnyH_take (i := 10) (oi := o24_10) (v := .pointer (some ⟨O + 1 + r, s, none⟩)) rfl (by kernel_rfl) (by kernel_rfl) (by kernel_rfl) (fun _ _ _ h => h) (Or.inl ⟨by rfl, by (intro w hSw; (try dsimp only at hSw); unfold o24_10; go_simp)⟩) (by assumption) ?_
  try simp only [o24_10, Act.put, List.setIfInBounds_toArray, List.set_cons_zero, List.set_cons_succ]
  refine wpAnyH_ready (rs := [11]) (by kernel_rfl) (by simp) (AllReadyH.cons (o := o24_11) rfl (fun K hK => ?_) AllReadyH.nil)
  unfold o24_11
  go_simp
  refine hK.out _ _ (hHeld) (fun hHeld => ?_)
  clear hK K
  try simp only [o24_11]
  refine wpAnyH_take (i := 12) (oi := o24_12) (v := .bool true) rfl (by kernel_rfl) (by kernel_rfl) (by kernel_rfl) (fun _ _ _ h => h) (Or.inl ⟨by rfl, by (intro w hSw; (try dsimp only at hSw); unfold o24_12; go_simp)⟩) (by assumption) ?_
  try simp only [o24_12, Act.put, List.setIfInBounds_toArray, List.set_cons_zero, List.set_cons_succ]
  refine wpAnyH_take (i := 13) (oi := o24_13) (v := undef) rfl (by kernel_rfl) (by kernel_rfl) (by kernel_rfl) (fun _ _ _ h => h) (Or.inr ⟨by rfl, rfl⟩) (by assumption) ?_
  try simp only [o24_13, Act.put, List.setIfInBounds_toArray, List.set_cons_zero, List.set_cons_succ]
  refine wpAnyH_take (i := 14) (oi := o24_14) (v := undef) rfl (by kernel_rfl) (by kernel_rfl) (by kernel_rfl) (fun _ _ _ h => h) (Or.inr ⟨by rfl, rfl⟩) (by assumption) ?_
  try simp only [o24_14, Act.put, List.setIfInBounds_toArray, List.set_cons_zero, List.set_cons_succ]
  refine wpAnyH_take (i := 15) (oi := o24_15) (v := undef) rfl (by kernel_rfl) (by kernel_rfl) (by kernel_rfl) (fun _ _ _ h => h) (Or.inr ⟨by rfl, rfl⟩) (by assumption) ?_
  try simp only [o24_15, Act.put, List.setIfInBounds_toArray, List.set_cons_zero, List.set_cons_succ]
  refine wpAnyH_take (i := 16) (oi := o24_16) (v := undef) rfl (by kernel_rfl) (by kernel_rfl) (by kernel_rfl) (fun _ _ _ h => h) (Or.inr ⟨by rfl, rfl⟩) (by assumption) ?_
  try simp only [o24_16, Act.put, List.setIfInBounds_toArray, List.set_cons_zero, List.set_cons_succ]
  refine wpAnyH_take (i := 17) (oi := o24_17) (v := undef) rfl (by kernel_rfl) (by kernel_rfl) (by kernel_rfl) (fun _ _ _ h => h) (Or.inr ⟨by rfl, rfl⟩) (by assumption) ?_
  try simp only [o24_17, Act.put, List.setIfInBounds_toArray, List.set_cons_zero, List.set_cons_succ]
  refine wpAnyH_take (i := 18) (oi := o24_18) (v := undef) rfl (by kernel_rfl) (by kernel_rfl) (by kernel_rfl) (fun _ _ _ h => h) (Or.inr ⟨by rfl, rfl⟩) (by assumption) ?_
  try simp only [o24_18, Act.put, List.setIfInBounds_toArray, List.set_cons_zero, List.set_cons_succ]
  refine wpAnyH_take (i := 19) (oi := o24_19) (v := undef) rfl (by kernel_rfl) (by kernel_rfl) (by kernel_rfl) (fun _ _ _ h => h) (Or.inr ⟨by rfl, rfl⟩) (by assumption) ?_
  try simp only [o24_19, Act.put, List.setIfInBounds_toArray, List.set_cons_zero, List.set_cons_succ]
  refine wpAnyH_take (i := 20) (oi := o24_20) (v := undef) rfl (by kernel_rfl) (by kernel_rfl) (by kernel_rfl) (fun _ _ _ h => h) (Or.inr ⟨by rfl, rfl⟩) (by assumption) ?_
  try simp only [o24_20, Act.put, List.setIfInBounds_toArray, List.set_cons_zero, List.set_cons_succ]
  refine wpAnyH_take (i := 21) (oi := o24_21) (v := undef) rfl (by kernel_rfl) (by kernel_rfl) (by kernel_rfl) (fun _ _ _ h => h) (Or.inr ⟨by rfl, rfl⟩) (by assumption) ?_
  try simp only [o24_21, Act.put, List.setIfInBounds_toArray, List.set_cons_zero, List.set_cons_succ]
  refine wpAnyH_take (i := 22) (oi := o24_22) (v := undef) rfl (by kernel_rfl) (by kernel_rfl) (by kernel_rfl) (fun _ _ _ h => h) (Or.inr ⟨by rfl, rfl⟩) (by assumption) ?_
  try simp only [o24_22, Act.put, List.setIfInBounds_toArray, List.set_cons_zero, List.set_cons_succ]
  refine wpAnyH_take (i := 23) (oi := o24_23) (v := undef) rfl (by kernel_rfl) (by kernel_rfl) (by kernel_rfl) (fun _ _ _ h => h) (Or.inr ⟨by rfl, rfl⟩) (by assumption) ?_
  try simp only [o24_23, Act.put, List.setIfInBounds_toArray, List.set_cons_zero, List.set_cons_succ]
  refine wpAnyH_take (i := 24) (oi := o24_24) (v := undef) rfl (by kernel_rfl) (by kernel_rfl) (by kernel_rfl) (fun _ _ _ h => h) (Or.inr ⟨by rfl, rfl⟩) (by assumption) ?_
  try simp only [o24_24, Act.put, List.setIfInBounds_toArray, List.set_cons_zero, List.set_cons_succ]
  refine wpAnyH_take (i := 25) (oi := o24_25) (v := undef) rfl (by kernel_rfl) (by kernel_rfl) (by kernel_rfl) (fun _ _ _ h => h) (Or.inr ⟨by rfl, rfl⟩) (by assumption) ?_
  try simp only [o24_25, Act.put, List.setIfInBounds_toArray, List.set_cons_zero, List.set_cons_succ]
  refine wpAnyH_take (i := 26) (oi := o24_26) (v := undef) rfl (by kernel_rfl) (by kernel_rfl) (by kernel_rfl) (fun _ _ _ h => h) (Or.inr ⟨by rfl, rfl⟩) (by assumption) ?_
  try simp only [o24_26, Act.put, List.setIfInBounds_toArray, List.set_cons_zero, List.set_cons_succ]
  refine wpAnyH_take (i := 27) (oi := o24_27) (v := undef) rfl (by kernel_rfl) (by kernel_rfl) (by kernel_rfl) (fun _ _ _ h => h) (Or.inr ⟨by rfl, rfl⟩) (by assumption) ?_
  try simp only [o24_27, Act.put, List.setIfInBounds_toArray, List.set_cons_zero, List.set_cons_succ]
  refine wpAnyH_take (i := 28) (oi := o24_28) (v := undef) rfl (by kernel_rfl) (by kernel_rfl) (by kernel_rfl) (fun _ _ _ h => h) (Or.inr ⟨by rfl, rfl⟩) (by assumption) ?_
  try simp only [o24_28, Act.put, List.setIfInBounds_toArray, List.set_cons_zero, List.set_cons_succ]
  refine wpAnyH_take (i := 29) (oi := o24_29) (v := .bool true) rfl (by kernel_rfl) (by kernel_rfl) (by kernel_rfl) (fun _ _ _ h => h) (Or.inl ⟨by rfl, by (intro w hSw; (try dsimp only at hSw); unfold o24_29; go_simp)⟩) (by assumption) ?_
  try simp only [o24_29, Act.put, List.setIfInBounds_toArray, List.set_cons_zero, List.set_cons_succ]
  refine wpAnyH_take (i := 30) (oi := o24_30) (v := .pointer (some ⟨O + 1 + r, s, none⟩)) rfl (by kernel_rfl) (by kernel_rfl) (by kernel_rfl) (fun _ _ _ h => h) (Or.inl ⟨by rfl, by (intro w hSw; (try dsimp only at hSw); unfold o24_30; go_simp)⟩) (by assumption) ?_
  try simp only [o24_30, Act.put, List.setIfInBounds_toArray, List.set_cons_zero, List.set_cons_succ]
  refine wpAnyH_ready (rs := [31]) (by kernel_rfl) (by simp) (AllReadyH.cons (o := o24_31) rfl (fun K hK => ?_) AllReadyH.nil)
  unfold o24_31
  go_simp
  refine hK.out _ _ (hT) (fun hHeld => ?_)
  clear hK K
  try simp only [o24_31]
  refine wpAnyH_done (by kernel_rfl) ?_ _
  exact hQ _ _ _ _ _ _ _ _ _ _ _ _ _ _ _ _ _ _ _ _ _ _ _ _ _ _ _ _ _ _ _ 

set_option maxRecDepth 100000 in
set_option maxHeartbeats 8000000 in
theorem ord24b_any {O n r s k : Nat} (h0r : (0 : Int) ≤ r) (hlr : (r : Int) < n) (h0s : (0 : Int) ≤ s) (hls : (s : Int) < n) (h0k : (0 : Int) ≤ k) (hlk : (k : Int) < n) {_B C : Bool} (Q : Exit → Act → World → Prop) (W : World) (hS : ∀ w', Below W.heap.size W w' → w'.cell? ⟨O, r, none⟩ = some (.slice (some ⟨O + 1 + r, 0, none⟩) n n) ∧ w'.cell? ⟨O, k, none⟩ = some (.slice (some ⟨O + 1 + k, 0, none⟩) n n) ∧ w'.cell? ⟨O + 1 + r, k, none⟩ = some (.bool true) ∧ w'.cell? ⟨O + 1 + k, s, none⟩ = some (.bool C)) (e2 : W.drew.cell? ⟨O + 1 + r, s, none⟩ = some (.bool false)) (f0 : W.drew.frozen? ⟨O + 1 + r, s, none⟩ = false) (hT : (fun w' : World => w'.cell? ⟨O, r, none⟩ = some (.slice (some ⟨O + 1 + r, 0, none⟩) n n) ∧ w'.cell? ⟨O, k, none⟩ = some (.slice (some ⟨O + 1 + k, 0, none⟩) n n) ∧ w'.cell? ⟨O + 1 + r, k, none⟩ = some (.bool true) ∧ w'.cell? ⟨O + 1 + k, s, none⟩ = some (.bool C)) (W.drew.setCell ⟨O + 1 + r, s, none⟩ (.bool C))) (x0 x1 x2 x3 x5 x6 x7 x11 x12 x13 x14 x15 x16 x17 x18 x19 x20 x21 x22 x23 x24 x25 x26 x27 x28 x29 x30 x31 x32 x33 x34 x35 x36 x37 x38 x39 x40 x41 x42 x43 x44 x45 x46 x47 x48 x49 x50 x51 x52 x53 x54 x55 x56 x57 x58 x59 x60 x61 x62 x63 x64 x65 x66 x67 x68 x69 x70 x71 x72 x73 x74 x75 x76 x77 x78 x79 x80 x81 x82 x83 x84 x85 x86 x87 x88 x89 x90 x91 x92 x93 x94 x95 x96 x97 x98 x99 x100 x101 x102 x103 x104 x105 x106 x107 : Value)
    (hQ : ∀ (u73 u74 u75 u76 u77 u78 u79 u80 u81 u82 u83 u84 u85 u86 u87 u88 u89 u90 u91 u92 u93 u94 u95 u96 u97 u98 u99 u100 u101 u102 u103 : Value), Q .normal { tmps := #[x0, x1, x2, x3, .slice (some ⟨O, 0, none⟩) n n, x5, x6, x7, .int .i64 (k : Nat), .int .i64 (r : Nat), .int .i64 (s : Nat), x11, x12, x13, x14, x15, x16, x17, x18, x19, x20, x21, x22, x23, x24, x25, x26, x27, x28, x29, x30, x31, x32, x33, x34, x35, x36, x37, x38, x39, x40, x41, x42, x43, x44, x45, x46, x47, x48, x49, x50, x51, x52, x53, x54, x55, x56, x57, x58, x59, x60, x61, x62, x63, x64, x65, x66, x67, x68, x69, x70, x71, x72, u73, u74, u75, u76, u77, u78, u79, u80, u81, u82, u83, u84, u85, u86, u87, u88, u89, u90, u91, u92, u93, u94, u95, u96, u97, u98, u99, u100, u101, u102, u103, x104, x105, x106, x107], defers := [] } (W.drew.setCell ⟨O + 1 + r, s, none⟩ (.bool C))) :
    (Code.region 24 opsord24 true).wp Tryz.prog Q { tmps := #[x0, x1, x2, x3, .slice (some ⟨O, 0, none⟩) n n, x5, x6, x7, .int .i64 (k : Nat), .int .i64 (r : Nat), .int .i64 (s : Nat), x11, x12, x13, x14, x15, x16, x17, x18, x19, x20, x21, x22, x23, x24, x25, x26, x27, x28, x29, x30, x31, x32, x33, x34, x35, x36, x37, x38, x39, x40, x41, x42, x43, x44, x45, x46, x47, x48, x49, x50, x51, x52, x53, x54, x55, x56, x57, x58, x59, x60, x61, x62, x63, x64, x65, x66, x67, x68, x69, x70, x71, x72, x73, x74, x75, x76, x77, x78, x79, x80, x81, x82, x83, x84, x85, x86, x87, x88, x89, x90, x91, x92, x93, x94, x95, x96, x97, x98, x99, x100, x101, x102, x103, x104, x105, x106, x107], defers := [] } W := by
  unfold opsord24
  refine wp_region_noPanic ?_
  refine wp_region_held_drew (S := fun w' => w'.cell? ⟨O, r, none⟩ = some (.slice (some ⟨O + 1 + r, 0, none⟩) n n) ∧ w'.cell? ⟨O, k, none⟩ = some (.slice (some ⟨O + 1 + k, 0, none⟩) n n) ∧ w'.cell? ⟨O + 1 + r, k, none⟩ = some (.bool true) ∧ w'.cell? ⟨O + 1 + k, s, none⟩ = some (.bool C)) (by kernel_rfl) (hS _ (Below.refl _ W).drew) (fun hHeld => ?_)
  refine wpAnyH_take (i := 0) (oi := o24_0) (v := .slice (some ⟨O, 0, none⟩) n n) rfl (by kernel_rfl) (by kernel_rfl) (by kernel_rfl) (fun _ _ _ h => h) (Or.inl ⟨by rfl, by (intro w hSw; (try dsimp only at hSw); unfold o24_0; go_simp)⟩) (by assumption) ?_
  try simp only [o24_0, Act.put, List.setIfInBounds_toArray, List.set_cons_zero, List.set_cons_succ]
  refine wpAnyH_take (i := 1) (oi := o24_1) (v := .int .i64 (r : Nat)) rfl (by kernel_rfl) (by kernel_rfl) (by kernel_rfl) (fun _ _ _ h => h) (Or.inl ⟨by rfl, by (intro w hSw; (try dsimp only at hSw); unfold o24_1; go_simp)⟩) (by assumption) ?_
  try simp only [o24_1, Act.put, List.setIfInBounds_toArray, List.set_cons_zero, List.set_cons_succ]
  refine wpAnyH_take (i := 2) (oi := o24_2) (v := .pointer (some ⟨O, r, none⟩)) rfl (by kernel_rfl) (by kernel_rfl) (by kernel_rfl) (fun _ _ _ h => h) (Or.inl ⟨by rfl, by (intro w hSw; (try dsimp only at hSw); unfold o24_2; go_simp)⟩) (by assumption) ?_
  try simp only [o24_2, Act.put, List.setIfInBounds_toArray, List.set_cons_zero, List.set_cons_succ]
  refine wpAnyH_take (i := 3) (oi := o24_3) (v := .slice (some ⟨O + 1 + r, 0, none⟩) n n) rfl (by kernel_rfl) (by kernel_rfl) (by kernel_rfl) (fun _ _ _ h => h) (Or.inl ⟨by rfl, by (intro w hSw; (try dsimp only at hSw); unfold o24_3; go_simp)⟩) (by assumption) ?_
  try simp only [o24_3, Act.put, List.setIfInBounds_toArray, List.set_cons_zero, List.set_cons_succ]
  refine wpAnyH_take (i := 4) (oi := o24_4) (v := .int .i64 (s : Nat)) rfl (by kernel_rfl) (by kernel_rfl) (by kernel_rfl) (fun _ _ _ h => h) (Or.inl ⟨by rfl, by (intro w hSw; (try dsimp only at hSw); unfold o24_4; go_simp)⟩) (by assumption) ?_
  try simp only [o24_4, Act.put, List.setIfInBounds_toArray, List.set_cons_zero, List.set_cons_succ]
  refine wpAnyH_take (i := 5) (oi := o24_5) (v := .slice (some ⟨O, 0, none⟩) n n) rfl (by kernel_rfl) (by kernel_rfl) (by kernel_rfl) (fun _ _ _ h => h) (Or.inl ⟨by rfl, by (intro w hSw; (try dsimp only at hSw); unfold o24_5; go_simp)⟩) (by assumption) ?_
  try simp only [o24_5, Act.put, List.setIfInBounds_toArray, List.set_cons_zero, List.set_cons_succ]
  refine wpAnyH_take (i := 6) (oi := o24_6) (v := .int .i64 (r : Nat)) rfl (by kernel_rfl) (by kernel_rfl) (by kernel_rfl) (fun _ _ _ h => h) (Or.inl ⟨by rfl, by (intro w hSw; (try dsimp only at hSw); unfold o24_6; go_simp)⟩) (by assumption) ?_
  try simp only [o24_6, Act.put, List.setIfInBounds_toArray, List.set_cons_zero, List.set_cons_succ]
  refine wpAnyH_take (i := 7) (oi := o24_7) (v := .pointer (some ⟨O, r, none⟩)) rfl (by kernel_rfl) (by kernel_rfl) (by kernel_rfl) (fun _ _ _ h => h) (Or.inl ⟨by rfl, by (intro w hSw; (try dsimp only at hSw); unfold o24_7; go_simp)⟩) (by assumption) ?_
  try simp only [o24_7, Act.put, List.setIfInBounds_toArray, List.set_cons_zero, List.set_cons_succ]
  refine wpAnyH_take (i := 8) (oi := o24_8) (v := .slice (some ⟨O + 1 + r, 0, none⟩) n n) rfl (by kernel_rfl) (by kernel_rfl) (by kernel_rfl) (fun _ _ _ h => h) (Or.inl ⟨by rfl, by (intro w hSw; (try dsimp only at hSw); unfold o24_8; go_simp)⟩) (by assumption) ?_
  try simp only [o24_8, Act.put, List.setIfInBounds_toArray, List.set_cons_zero, List.set_cons_succ]
  refine wpAnyH_take (i := 9) (oi := o24_9) (v := .int .i64 (s : Nat)) rfl (by kernel_rfl) (by kernel_rfl) (by kernel_rfl) (fun _ _ _ h => h) (Or.inl ⟨by rfl, by (intro w hSw; (try dsimp only at hSw); unfold o24_9; go_simp)⟩) (by assumption) ?_
  try simp only [o24_9, Act.put, List.setIfInBounds_toArray, List.set_cons_zero, List.set_cons_succ]
  refine wpAnyH_take (i := 10) (oi := o24_10) (v := .pointer (some ⟨O + 1 + r, s, none⟩)) rfl (by kernel_rfl) (by kernel_rfl) (by kernel_rfl) (fun _ _ _ h => h) (Or.inl ⟨by rfl, by (intro w hSw; (try dsimp only at hSw); unfold o24_10; go_simp)⟩) (by assumption) ?_
  try simp only [o24_10, Act.put, List.setIfInBounds_toArray, List.set_cons_zero, List.set_cons_succ]
  refine wpAnyH_ready (rs := [11]) (by kernel_rfl) (by simp) (AllReadyH.cons (o := o24_11) rfl (fun K hK => ?_) AllReadyH.nil)
  unfold o24_11
  go_simp
  refine hK.out _ _ (hHeld) (fun hHeld => ?_)
  clear hK K
  try simp only [o24_11]
  refine wpAnyH_take (i := 12) (oi := o24_12) (v := .bool false) rfl (by kernel_rfl) (by kernel_rfl) (by kernel_rfl) (fun _ _ _ h => h) (Or.inl ⟨by rfl, by (intro w hSw; (try dsimp only at hSw); unfold o24_12; go_simp)⟩) (by assumption) ?_
  try simp only [o24_12, Act.put, List.setIfInBounds_toArray, List.set_cons_zero, List.set_cons_succ]
  refine wpAnyH_take (i := 13) (oi := o24_13) (v := .slice (some ⟨O, 0, none⟩) n n) rfl (by kernel_rfl) (by kernel_rfl) (by kernel_rfl) (fun _ _ _ h => h) (Or.inl ⟨by rfl, by (intro w hSw; (try dsimp only at hSw); unfold o24_13; go_simp)⟩) (by assumption) ?_
  try simp only [o24_13, Act.put, List.setIfInBounds_toArray, List.set_cons_zero, List.set_cons_succ]
  refine wpAnyH_take (i := 14) (oi := o24_14) (v := .int .i64 (r : Nat)) rfl (by kernel_rfl) (by kernel_rfl) (by kernel_rfl) (fun _ _ _ h => h) (Or.inl ⟨by rfl, by (intro w hSw; (try dsimp only at hSw); unfold o24_14; go_simp)⟩) (by assumption) ?_
  try simp only [o24_14, Act.put, List.setIfInBounds_toArray, List.set_cons_zero, List.set_cons_succ]
  refine wpAnyH_take (i := 15) (oi := o24_15) (v := .pointer (some ⟨O, r, none⟩)) rfl (by kernel_rfl) (by kernel_rfl) (by kernel_rfl) (fun _ _ _ h => h) (Or.inl ⟨by rfl, by (intro w hSw; (try dsimp only at hSw); unfold o24_15; go_simp)⟩) (by assumption) ?_
  try simp only [o24_15, Act.put, List.setIfInBounds_toArray, List.set_cons_zero, List.set_cons_succ]
  refine wpAnyH_take (i := 16) (oi := o24_16) (v := .slice (some ⟨O + 1 + r, 0, none⟩) n n) rfl (by kernel_rfl) (by kernel_rfl) (by kernel_rfl) (fun _ _ _ h => h) (Or.inl ⟨by rfl, by (intro w hSw; (try dsimp only at hSw); unfold o24_16; go_simp)⟩) (by assumption) ?_
  try simp only [o24_16, Act.put, List.setIfInBounds_toArray, List.set_cons_zero, List.set_cons_succ]
  refine wpAnyH_take (i := 17) (oi := o24_17) (v := .int .i64 (k : Nat)) rfl (by kernel_rfl) (by kernel_rfl) (by kernel_rfl) (fun _ _ _ h => h) (Or.inl ⟨by rfl, by (intro w hSw; (try dsimp only at hSw); unfold o24_17; go_simp)⟩) (by assumption) ?_
  try simp only [o24_17, Act.put, List.setIfInBounds_toArray, List.set_cons_zero, List.set_cons_succ]
  refine wpAnyH_take (i := 18) (oi := o24_18) (v := .pointer (some ⟨O + 1 + r, k, none⟩)) rfl (by kernel_rfl) (by kernel_rfl) (by kernel_rfl) (fun _ _ _ h => h) (Or.inl ⟨by rfl, by (intro w hSw; (try dsimp only at hSw); unfold o24_18; go_simp)⟩) (by assumption) ?_
  try simp only [o24_18, Act.put, List.setIfInBounds_toArray, List.set_cons_zero, List.set_cons_succ]
  refine wpAnyH_take (i := 19) (oi := o24_19) (v := .bool true) rfl (by kernel_rfl) (by kernel_rfl) (by kernel_rfl) (fun _ _ _ h => h) (Or.inl ⟨by rfl, by (intro w hSw; (try dsimp only at hSw); unfold o24_19; go_simp)⟩) (by assumption) ?_
  try simp only [o24_19, Act.put, List.setIfInBounds_toArray, List.set_cons_zero, List.set_cons_succ]
  refine wpAnyH_take (i := 20) (oi := o24_20) (v := .bool true) rfl (by kernel_rfl) (by kernel_rfl) (by kernel_rfl) (fun _ _ _ h => h) (Or.inl ⟨by rfl, by (intro w hSw; (try dsimp only at hSw); unfold o24_20; go_simp)⟩) (by assumption) ?_
  try simp only [o24_20, Act.put, List.setIfInBounds_toArray, List.set_cons_zero, List.set_cons_succ]
  refine wpAnyH_take (i := 21) (oi := o24_21) (v := .slice (some ⟨O, 0, none⟩) n n) rfl (by kernel_rfl) (by kernel_rfl) (by kernel_rfl) (fun _ _ _ h => h) (Or.inl ⟨by rfl, by (intro w hSw; (try dsimp only at hSw); unfold o24_21; go_simp)⟩) (by assumption) ?_
  try simp only [o24_21, Act.put, List.setIfInBounds_toArray, List.set_cons_zero, List.set_cons_succ]
  refine wpAnyH_take (i := 22) (oi := o24_22) (v := .int .i64 (k : Nat)) rfl (by kernel_rfl) (by kernel_rfl) (by kernel_rfl) (fun _ _ _ h => h) (Or.inl ⟨by rfl, by (intro w hSw; (try dsimp only at hSw); unfold o24_22; go_simp)⟩) (by assumption) ?_
  try simp only [o24_22, Act.put, List.setIfInBounds_toArray, List.set_cons_zero, List.set_cons_succ]
  refine wpAnyH_take (i := 23) (oi := o24_23) (v := .pointer (some ⟨O, k, none⟩)) rfl (by kernel_rfl) (by kernel_rfl) (by kernel_rfl) (fun _ _ _ h => h) (Or.inl ⟨by rfl, by (intro w hSw; (try dsimp only at hSw); unfold o24_23; go_simp)⟩) (by assumption) ?_
  try simp only [o24_23, Act.put, List.setIfInBounds_toArray, List.set_cons_zero, List.set_cons_succ]
  refine wpAnyH_take (i := 24) (oi := o24_24) (v := .slice (some ⟨O + 1 + k, 0, none⟩) n n) rfl (by kernel_rfl) (by kernel_rfl) (by kernel_rfl) (fun _ _ _ h => h) (Or.inl ⟨by rfl, by (intro w hSw; (try dsimp only at hSw); unfold o24_24; go_simp)⟩) (by assumption) ?_
  try simp only [o24_24, Act.put, List.setIfInBounds_toArray, List.set_cons_zero, List.set_cons_succ]
  refine wpAnyH_take (i := 25) (oi := o24_25) (v := .int .i64 (s : Nat)) rfl (by kernel_rfl) (by kernel_rfl) (by kernel_rfl) (fun _ _ _ h => h) (Or.inl ⟨by rfl, by (intro w hSw; (try dsimp only at hSw); unfold o24_25; go_simp)⟩) (by assumption) ?_
  try simp only [o24_25, Act.put, List.setIfInBounds_toArray, List.set_cons_zero, List.set_cons_succ]
  refine wpAnyH_take (i := 26) (oi := o24_26) (v := .pointer (some ⟨O + 1 + k, s, none⟩)) rfl (by kernel_rfl) (by kernel_rfl) (by kernel_rfl) (fun _ _ _ h => h) (Or.inl ⟨by rfl, by (intro w hSw; (try dsimp only at hSw); unfold o24_26; go_simp)⟩) (by assumption) ?_
  try simp only [o24_26, Act.put, List.setIfInBounds_toArray, List.set_cons_zero, List.set_cons_succ]
  refine wpAnyH_take (i := 27) (oi := o24_27) (v := .bool C) rfl (by kernel_rfl) (by kernel_rfl) (by kernel_rfl) (fun _ _ _ h => h) (Or.inl ⟨by rfl, by (intro w hSw; (try dsimp only at hSw); unfold o24_27; go_simp)⟩) (by assumption) ?_
  try simp only [o24_27, Act.put, List.setIfInBounds_toArray, List.set_cons_zero, List.set_cons_succ]
  refine wpAnyH_take (i := 28) (oi := o24_28) (v := .bool C) rfl (by kernel_rfl) (by kernel_rfl) (by kernel_rfl) (fun _ _ _ h => h) (Or.inl ⟨by rfl, by (intro w hSw; (try dsimp only at hSw); unfold o24_28; go_simp)⟩) (by assumption) ?_
  try simp only [o24_28, Act.put, List.setIfInBounds_toArray, List.set_cons_zero, List.set_cons_succ]
  refine wpAnyH_take (i := 29) (oi := o24_29) (v := .bool C) rfl (by kernel_rfl) (by kernel_rfl) (by kernel_rfl) (fun _ _ _ h => h) (Or.inl ⟨by rfl, by (intro w hSw; (try dsimp only at hSw); unfold o24_29; go_simp)⟩) (by assumption) ?_
  try simp only [o24_29, Act.put, List.setIfInBounds_toArray, List.set_cons_zero, List.set_cons_succ]
  refine wpAnyH_take (i := 30) (oi := o24_30) (v := .pointer (some ⟨O + 1 + r, s, none⟩)) rfl (by kernel_rfl) (by kernel_rfl) (by kernel_rfl) (fun _ _ _ h => h) (Or.inl ⟨by rfl, by (intro w hSw; (try dsimp only at hSw); unfold o24_30; go_simp)⟩) (by assumption) ?_
  try simp only [o24_30, Act.put, List.setIfInBounds_toArray, List.set_cons_zero, List.set_cons_succ]
  refine wpAnyH_ready (rs := [31]) (by kernel_rfl) (by simp) (AllReadyH.cons (o := o24_31) rfl (fun K hK => ?_) AllReadyH.nil)
  unfold o24_31
  go_simp
  refine hK.out _ _ (hT) (fun hHeld => ?_)
  clear hK K
  try simp only [o24_31]
  refine wpAnyH_done (by kernel_rfl) ?_ _
  exact hQ _ _ _ _ _ _ _ _ _ _ _ _ _ _ _ _ _ _ _ _ _ _ _ _ _ _ _ _ _ _ _ 

set_option maxRecDepth 100000 in
set_option maxHeartbeats 8000000 in
theorem ord24c_any {O n r s k : Nat} (h0r : (0 : Int) ≤ r) (hlr : (r : Int) < n) (h0s : (0 : Int) ≤ s) (hls : (s : Int) < n) (h0k : (0 : Int) ≤ k) (hlk : (k : Int) < n) {_B C : Bool} (Q : Exit → Act → World → Prop) (W : World) (hS : ∀ w', Below W.heap.size W w' → w'.cell? ⟨O, r, none⟩ = some (.slice (some ⟨O + 1 + r, 0, none⟩) n n) ∧ w'.cell? ⟨O, k, none⟩ = some (.slice (some ⟨O + 1 + k, 0, none⟩) n n) ∧ w'.cell? ⟨O + 1 + r, k, none⟩ = some (.bool false) ∧ w'.cell? ⟨O + 1 + k, s, none⟩ = some (.bool C)) (e2 : W.drew.cell? ⟨O + 1 + r, s, none⟩ = some (.bool false)) (f0 : W.drew.frozen? ⟨O + 1 + r, s, none⟩ = false) (hT : (fun w' : World => w'.cell? ⟨O, r, none⟩ = some (.slice (some ⟨O + 1 + r, 0, none⟩) n n) ∧ w'.cell? ⟨O, k, none⟩ = some (.slice (some ⟨O + 1 + k, 0, none⟩) n n) ∧ w'.cell? ⟨O + 1 + r, k, none⟩ = some (.bool false) ∧ w'.cell? ⟨O + 1 + k, s, none⟩ = some (.bool C)) (W.drew.setCell ⟨O + 1 + r, s, none⟩ (.bool false))) (x0 x1 x2 x3 x5 x6 x7 x11 x12 x13 x14 x15 x16 x17 x18 x19 x20 x21 x22 x23 x24 x25 x26 x27 x28 x29 x30 x31 x32 x33 x34 x35 x36 x37 x38 x39 x40 x41 x42 x43 x44 x45 x46 x47 x48 x49 x50 x51 x52 x53 x54 x55 x56 x57 x58 x59 x60 x61 x62 x63 x64 x65 x66 x67 x68 x69 x70 x71 x72 x73 x74 x75 x76 x77 x78 x79 x80 x81 x82 x83 x84 x85 x86 x87 x88 x89 x90 x91 x92 x93 x94 x95 x96 x97 x98 x99 x100 x101 x102 x103 x104 x105 x106 x107 : Value)
    (hQ : ∀ (u73 u74 u75 u76 u77 u78 u79 u80 u81 u82 u83 u84 u85 u86 u87 u88 u89 u90 u91 u92 u93 u94 u95 u96 u97 u98 u99 u100 u101 u102 u103 : Value), Q .normal { tmps := #[x0, x1, x2, x3, .slice (some ⟨O, 0, none⟩) n n, x5, x6, x7, .int .i64 (k : Nat), .int .i64 (r : Nat), .int .i64 (s : Nat), x11, x12, x13, x14, x15, x16, x17, x18, x19, x20, x21, x22, x23, x24, x25, x26, x27, x28, x29, x30, x31, x32, x33, x34, x35, x36, x37, x38, x39, x40, x41, x42, x43, x44, x45, x46, x47, x48, x49, x50, x51, x52, x53, x54, x55, x56, x57, x58, x59, x60, x61, x62, x63, x64, x65, x66, x67, x68, x69, x70, x71, x72, u73, u74, u75, u76, u77, u78, u79, u80, u81, u82, u83, u84, u85, u86, u87, u88, u89, u90, u91, u92, u93, u94, u95, u96, u97, u98, u99, u100, u101, u102, u103, x104, x105, x106, x107], defers := [] } (W.drew.setCell ⟨O + 1 + r, s, none⟩ (.bool false))) :
    (Code.region 24 opsord24 true).wp Tryz.prog Q { tmps := #[x0, x1, x2, x3, .slice (some ⟨O, 0, none⟩) n n, x5, x6, x7, .int .i64 (k : Nat), .int .i64 (r : Nat), .int .i64 (s : Nat), x11, x12, x13, x14, x15, x16, x17, x18, x19, x20, x21, x22, x23, x24, x25, x26, x27, x28, x29, x30, x31, x32, x33, x34, x35, x36, x37, x38, x39, x40, x41, x42, x43, x44, x45, x46, x47, x48, x49, x50, x51, x52, x53, x54, x55, x56, x57, x58, x59, x60, x61, x62, x63, x64, x65, x66, x67, x68, x69, x70, x71, x72, x73, x74, x75, x76, x77, x78, x79, x80, x81, x82, x83, x84, x85, x86, x87, x88, x89, x90, x91, x92, x93, x94, x95, x96, x97, x98, x99, x100, x101, x102, x103, x104, x105, x106, x107], defers := [] } W := by
  unfold opsord24
  refine wp_region_noPanic ?_
  refine wp_region_held_drew (S := fun w' => w'.cell? ⟨O, r, none⟩ = some (.slice (some ⟨O + 1 + r, 0, none⟩) n n) ∧ w'.cell? ⟨O, k, none⟩ = some (.slice (some ⟨O + 1 + k, 0, none⟩) n n) ∧ w'.cell? ⟨O + 1 + r, k, none⟩ = some (.bool false) ∧ w'.cell? ⟨O + 1 + k, s, none⟩ = some (.bool C)) (by kernel_rfl) (hS _ (Below.refl _ W).drew) (fun hHeld => ?_)
  refine wpAnyH_take (i := 0) (oi := o24_0) (v := .slice (some ⟨O, 0, none⟩) n n) rfl (by kernel_rfl) (by kernel_rfl) (by kernel_rfl) (fun _ _ _ h => h) (Or.inl ⟨by rfl, by (intro w hSw; (try dsimp only at hSw); unfold o24_0; go_simp)⟩) (by assumption) ?_
  try simp only [o24_0, Act.put, List.setIfInBounds_toArray, List.set_cons_zero, List.set_cons_succ]
  refine wpAnyH_take (i := 1) (oi := o24_1) (v := .int .i64 (r : Nat)) rfl (by kernel_rfl) (by kernel_rfl) (by kernel_rfl) (fun _ _ _ h => h) (Or.inl ⟨by rfl, by (intro w hSw; (try dsimp only at hSw); unfold o24_1; go_simp)⟩) (by assumption) ?_
  try simp only [o24_1, Act.put, List.setIfInBounds_toArray, List.set_cons_zero, List.set_cons_succ]
  refine wpAnyH_take (i := 2) (oi := o24_2) (v := .pointer (some ⟨O, r, none⟩)) rfl (by kernel_rfl) (by kernel_rfl) (by kernel_rfl) (fun _ _ _ h => h) (Or.inl ⟨by rfl, by (intro w hSw; (try dsimp only at hSw); unfold o24_2; go_simp)⟩) (by assumption) ?_
  try simp only [o24_2, Act.put, List.setIfInBounds_toArray, List.set_cons_zero, List.set_cons_succ]
  refine wpAnyH_take (i := 3) (oi := o24_3) (v := .slice (some ⟨O + 1 + r, 0, none⟩) n n) rfl (by kernel_rfl) (by kernel_rfl) (by kernel_rfl) (fun _ _ _ h => h) (Or.inl ⟨by rfl, by (intro w hSw; (try dsimp only at hSw); unfold o24_3; go_simp)⟩) (by assumption) ?_
  try simp only [o24_3, Act.put, List.setIfInBounds_toArray, List.set_cons_zero, List.set_cons_succ]
  refine wpAnyH_take (i := 4) (oi := o24_4) (v := .int .i64 (s : Nat)) rfl (by kernel_rfl) (by kernel_rfl) (by kernel_rfl) (fun _ _ _ h => h) (Or.inl ⟨by rfl, by (intro w hSw; (try dsimp only at hSw); unfold o24_4; go_simp)⟩) (by assumption) ?_
  try simp only [o24_4, Act.put, List.setIfInBounds_toArray, List.set_cons_zero, List.set_cons_succ]
  refine wpAnyH_take (i := 5) (oi := o24_5) (v := .slice (some ⟨O, 0, none⟩) n n) rfl (by kernel_rfl) (by kernel_rfl) (by kernel_rfl) (fun _ _ _ h => h) (Or.inl ⟨by rfl, by (intro w hSw; (try dsimp only at hSw); unfold o24_5; go_simp)⟩) (by assumption) ?_
  try simp only [o24_5, Act.put, List.setIfInBounds_toArray, List.set_cons_zero, List.set_cons_succ]
  refine wpAnyH_take (i := 6) (oi := o24_6) (v := .int .i64 (r : Nat)) rfl (by kernel_rfl) (by kernel_rfl) (by kernel_rfl) (fun _ _ _ h => h) (Or.inl ⟨by rfl, by (intro w hSw; (try dsimp only at hSw); unfold o24_6; go_simp)⟩) (by assumption) ?_
  try simp only [o24_6, Act.put, List.setIfInBounds_toArray, List.set_cons_zero, List.set_cons_succ]
  refine wpAnyH_take (i := 7) (oi := o24_7) (v := .pointer (some ⟨O, r, none⟩)) rfl (by kernel_rfl) (by kernel_rfl) (by kernel_rfl) (fun _ _ _ h => h) (Or.inl ⟨by rfl, by (intro w hSw; (try dsimp only at hSw); unfold o24_7; go_simp)⟩) (by assumption) ?_
  try simp only [o24_7, Act.put, List.setIfInBounds_toArray, List.set_cons_zero, List.set_cons_succ]
  refine wpAnyH_take (i := 8) (oi := o24_8) (v := .slice (some ⟨O + 1 + r, 0, none⟩) n n) rfl (by kernel_rfl) (by kernel_rfl) (by kernel_rfl) (fun _ _ _ h => h) (Or.inl ⟨by rfl, by (intro w hSw; (try dsimp only at hSw); unfold o24_8; go_simp)⟩) (by assumption) ?_
  try simp only [o24_8, Act.put, List.setIfInBounds_toArray, List.set_cons_zero, List.set_cons_succ]
  refine wpAnyH_take (i := 9) (oi := o24_9) (v := .int .i64 (s : Nat)) rfl (by kernel_rfl) (by kernel_rfl) (by kernel_rfl) (fun _ _ _ h => h) (Or.inl ⟨by rfl, by (intro w hSw; (try dsimp only at hSw); unfold o24_9; go_simp)⟩) (by assumption) ?_
  try simp only [o24_9, Act.put, List.setIfInBounds_toArray, List.set_cons_zero, List.set_cons_succ]
  refine wpAnyH_take (i := 10) (oi := o24_10) (v := .pointer (some ⟨O + 1 + r, s, none⟩)) rfl (by kernel_rfl) (by kernel_rfl) (by kernel_rfl) (fun _ _ _ h => h) (Or.inl ⟨by rfl, by (intro w hSw; (try dsimp only at hSw); unfold o24_10; go_simp)⟩) (by assumption) ?_
  try simp only [o24_10, Act.put, List.setIfInBounds_toArray, List.set_cons_zero, List.set_cons_succ]
  refine wpAnyH_ready (rs := [11]) (by kernel_rfl) (by simp) (AllReadyH.cons (o := o24_11) rfl (fun K hK => ?_) AllReadyH.nil)
  unfold o24_11
  go_simp
  refine hK.out _ _ (hHeld) (fun hHeld => ?_)
  clear hK K
  try simp only [o24_11]
  refine wpAnyH_take (i := 12) (oi := o24_12) (v := .bool false) rfl (by kernel_rfl) (by kernel_rfl) (by kernel_rfl) (fun _ _ _ h => h) (Or.inl ⟨by rfl, by (intro w hSw; (try dsimp only at hSw); unfold o24_12; go_simp)⟩) (by assumption) ?_
  try simp only [o24_12, Act.put, List.setIfInBounds_toArray, List.set_cons_zero, List.set_cons_succ]
  refine wpAnyH_take (i := 13) (oi := o24_13) (v := .slice (some ⟨O, 0, none⟩) n n) rfl (by kernel_rfl) (by kernel_rfl) (by kernel_rfl) (fun _ _ _ h => h) (Or.inl ⟨by rfl, by (intro w hSw; (try dsimp only at hSw); unfold o24_13; go_simp)⟩) (by assumption) ?_
  try simp only [o24_13, Act.put, List.setIfInBounds_toArray, List.set_cons_zero, List.set_cons_succ]
  refine wpAnyH_take (i := 14) (oi := o24_14) (v := .int .i64 (r : Nat)) rfl (by kernel_rfl) (by kernel_rfl) (by kernel_rfl) (fun _ _ _ h => h) (Or.inl ⟨by rfl, by (intro w hSw; (try dsimp only at hSw); unfold o24_14; go_simp)⟩) (by assumption) ?_
  try simp only [o24_14, Act.put, List.setIfInBounds_toArray, List.set_cons_zero, List.set_cons_succ]
  refine wpAnyH_take (i := 15) (oi := o24_15) (v := .pointer (some ⟨O, r, none⟩)) rfl (by kernel_rfl) (by kernel_rfl) (by kernel_rfl) (fun _ _ _ h => h) (Or.inl ⟨by rfl, by (intro w hSw; (try dsimp only at hSw); unfold o24_15; go_simp)⟩) (by assumption) ?_
  try simp only [o24_15, Act.put, List.setIfInBounds_toArray, List.set_cons_zero, List.set_cons_succ]
  refine wpAnyH_take (i := 16) (oi := o24_16) (v := .slice (some ⟨O + 1 + r, 0, none⟩) n n) rfl (by kernel_rfl) (by kernel_rfl) (by kernel_rfl) (fun _ _ _ h => h) (Or.inl ⟨by rfl, by (intro w hSw; (try dsimp only at hSw); unfold o24_16; go_simp)⟩) (by assumption) ?_
  try simp only [o24_16, Act.put, List.setIfInBounds_toArray, List.set_cons_zero, List.set_cons_succ]
  refine wpAnyH_take (i := 17) (oi := o24_17) (v := .int .i64 (k : Nat)) rfl (by kernel_rfl) (by kernel_rfl) (by kernel_rfl) (fun _ _ _ h => h) (Or.inl ⟨by rfl, by (intro w hSw; (try dsimp only at hSw); unfold o24_17; go_simp)⟩) (by assumption) ?_
  try simp only [o24_17, Act.put, List.setIfInBounds_toArray, List.set_cons_zero, List.set_cons_succ]
  refine wpAnyH_take (i := 18) (oi := o24_18) (v := .pointer (some ⟨O + 1 + r, k, none⟩)) rfl (by kernel_rfl) (by kernel_rfl) (by kernel_rfl) (fun _ _ _ h => h) (Or.inl ⟨by rfl, by (intro w hSw; (try dsimp only at hSw); unfold o24_18; go_simp)⟩) (by assumption) ?_
  try simp only [o24_18, Act.put, List.setIfInBounds_toArray, List.set_cons_zero, List.set_cons_succ]
  refine wpAnyH_take (i := 19) (oi := o24_19) (v := .bool false) rfl (by kernel_rfl) (by kernel_rfl) (by kernel_rfl) (fun _ _ _ h => h) (Or.inl ⟨by rfl, by (intro w hSw; (try dsimp only at hSw); unfold o24_19; go_simp)⟩) (by assumption) ?_
  try simp only [o24_19, Act.put, List.setIfInBounds_toArray, List.set_cons_zero, List.set_cons_succ]
  refine wpAnyH_take (i := 20) (oi := o24_20) (v := .bool false) rfl (by kernel_rfl) (by kernel_rfl) (by kernel_rfl) (fun _ _ _ h => h) (Or.inl ⟨by rfl, by (intro w hSw; (try dsimp only at hSw); unfold o24_20; go_simp)⟩) (by assumption) ?_
  try simp only [o24_20, Act.put, List.setIfInBounds_toArray, List.set_cons_zero, List.set_cons_succ]
  refine wpAnyH_take (i := 21) (oi := o24_21) (v := undef) rfl (by kernel_rfl) (by kernel_rfl) (by kernel_rfl) (fun _ _ _ h => h) (Or.inr ⟨by rfl, rfl⟩) (by assumption) ?_
  try simp only [o24_21, Act.put, List.setIfInBounds_toArray, List.set_cons_zero, List.set_cons_succ]
  refine wpAnyH_take (i := 22) (oi := o24_22) (v := undef) rfl (by kernel_rfl) (by kernel_rfl) (by kernel_rfl) (fun _ _ _ h => h) (Or.inr ⟨by rfl, rfl⟩) (by assumption) ?_
  try simp only [o24_22, Act.put, List.setIfInBounds_toArray, List.set_cons_zero, List.set_cons_succ]
  refine wpAnyH_take (i := 23) (oi := o24_23) (v := undef) rfl (by kernel_rfl) (by kernel_rfl) (by kernel_rfl) (fun _ _ _ h => h) (Or.inr ⟨by rfl, rfl⟩) (by assumption) ?_
  try simp only [o24_23, Act.put, List.setIfInBounds_toArray, List.set_cons_zero, List.set_cons_succ]
  refine wpAnyH_take (i := 24) (oi := o24_24) (v := undef) rfl (by kernel_rfl) (by kernel_rfl) (by kernel_rfl) (fun _ _ _ h => h) (Or.inr ⟨by rfl, rfl⟩) (by assumption) ?_
  try simp only [o24_24, Act.put, List.setIfInBounds_toArray, List.set_cons_zero, List.set_cons_succ]
  refine wpAnyH_take (i := 25) (oi := o24_25) (v := undef) rfl (by kernel_rfl) (by kernel_rfl) (by kernel_rfl) (fun _ _ _ h => h) (Or.inr ⟨by rfl, rfl⟩) (by assumption) ?_
  try simp only [o24_25, Act.put, List.setIfInBounds_toArray, List.set_cons_zero, List.set_cons_succ]
  refine wpAnyH_take (i := 26) (oi := o24_26) (v := undef) rfl (by kernel_rfl) (by kernel_rfl) (by kernel_rfl) (fun _ _ _ h => h) (Or.inr ⟨by rfl, rfl⟩) (by assumption) ?_
  try simp only [o24_26, Act.put, List.setIfInBounds_toArray, List.set_cons_zero, List.set_cons_succ]
  refine wpAnyH_take (i := 27) (oi := o24_27) (v := undef) rfl (by kernel_rfl) (by kernel_rfl) (by kernel_rfl) (fun _ _ _ h => h) (Or.inr ⟨by rfl, rfl⟩) (by assumption) ?_
  try simp only [o24_27, Act.put, List.setIfInBounds_toArray, List.set_cons_zero, List.set_cons_succ]
  refine wpAnyH_take (i := 28) (oi := o24_28) (v := .bool false) rfl (by kernel_rfl) (by kernel_rfl) (by kernel_rfl) (fun _ _ _ h => h) (Or.inl ⟨by rfl, by (intro w hSw; (try dsimp only at hSw); unfold o24_28; go_simp)⟩) (by assumption) ?_
  try simp only [o24_28, Act.put, List.setIfInBounds_toArray, List.set_cons_zero, List.set_cons_succ]
  refine wpAnyH_take (i := 29) (oi := o24_29) (v := .bool false) rfl (by kernel_rfl) (by kernel_rfl) (by kernel_rfl) (fun _ _ _ h => h) (Or.inl ⟨by rfl, by (intro w hSw; (try dsimp only at hSw); unfold o24_29; go_simp)⟩) (by assumption) ?_
  try simp only [o24_29, Act.put, List.setIfInBounds_toArray, List.set_cons_zero, List.set_cons_succ]
  refine wpAnyH_take (i := 30) (oi := o24_30) (v := .pointer (some ⟨O + 1 + r, s, none⟩)) rfl (by kernel_rfl) (by kernel_rfl) (by kernel_rfl) (fun _ _ _ h => h) (Or.inl ⟨by rfl, by (intro w hSw; (try dsimp only at hSw); unfold o24_30; go_simp)⟩) (by assumption) ?_
  try simp only [o24_30, Act.put, List.setIfInBounds_toArray, List.set_cons_zero, List.set_cons_succ]
  refine wpAnyH_ready (rs := [31]) (by kernel_rfl) (by simp) (AllReadyH.cons (o := o24_31) rfl (fun K hK => ?_) AllReadyH.nil)
  unfold o24_31
  go_simp
  refine hK.out _ _ (hT) (fun hHeld => ?_)
  clear hK K
  try simp only [o24_31]
  refine wpAnyH_done (by kernel_rfl) ?_ _
  exact hQ _ _ _ _ _ _ _ _ _ _ _ _ _ _ _ _ _ _ _ _ _ _ _ _ _ _ _ _ _ _ _ 

end Go.Proofs.YtffibneelaeocaaGreatDoor

namespace Go.Proofs.YtffibneelaeocaaGreatDoor
open Go.RowKit
attribute [local go_sem ↓] Go.wp_at_zero Go.wp_at_succ

/-- The rows of a matrix, behind its first block. -/
def outC (O n k : Nat) : List Value := (List.range n).map fun r => if r < k then .slice (some ⟨O + 1 + r, 0, none⟩) n n else .slice none 0 0
theorem outC_len (O n k : Nat) : (outC O n k).length = n := by simp [outC]
theorem outC_at {O n k r : Nat} (h : r < n) : (outC O n k)[r]? = some (if r < k then .slice (some ⟨O + 1 + r, 0, none⟩) n n else .slice none 0 0) := by
  rw [outC, List.getElem?_map, List.getElem?_range h]; rfl
theorem outC_set {O n k : Nat} : (outC O n k).toArray.setIfInBounds k (.slice (some ⟨O + 1 + k, 0, none⟩) n n) = (outC O n (k + 1)).toArray := by
  apply Array.ext_getElem?
  intro j
  simp only [Array.getElem?_setIfInBounds, List.getElem?_toArray, List.size_toArray, outC_len]
  by_cases hj : j < n
  · rw [outC_at hj, outC_at hj]
    by_cases e : k = j
    · subst e
      rw [if_pos rfl, if_pos hj, if_pos (by omega)]
    · rw [if_neg e]
      by_cases h2 : j < k
      · rw [if_pos h2, if_pos (by omega)]
      · rw [if_neg h2, if_neg (by omega)]
  · have h1 : ∀ q, (outC O n q)[j]? = none := fun q => List.getElem?_eq_none (by rw [outC_len]; omega)
    rw [h1, h1]
    split
    · rw [if_neg (by omega)]
    · rfl
theorem boolss_info : (Tryz.prog.info? 49).map (fun i => (i.zero, i.size, i.bytes)) = some (some (.slice none 0 0), 1, 24) := by kernel_rfl
theorem make_boolss (n : Nat) (hn : n ≤ 256) (w : World) : (Instr.makeSlice 59 (.int .i64 (n : Int)) (.int .i64 (n : Int))).run Tryz.prog w = .ok (.slice (some ⟨w.heap.size, 0, none⟩) n n) (w.alloc (.cells (outC w.heap.size n 0).toArray 49)) := by
  obtain ⟨i0, hi, hz0, hz1, hz2⟩ := info_parts boolss_info
  have := run_make (P := Tryz.prog) w 59 49 i0 _ Tryz.underlying59 hi hz0 .i64 .i64 n n (by omega) (by omega) (by rw [hz2]; omega) (by omega)
  rw [this, hz1]
  simp only [Int.toNat_natCast, Nat.mul_one]
  have hmc : madeCells (Value.slice none 0 0).cells n = (outC w.heap.size n 0).toArray := by
    apply Array.ext_getElem?
    intro j
    by_cases hj : j < n
    · simp only [List.getElem?_toArray]
      rw [outC_at hj, Array.getElem?_eq_getElem (by rw [size_madeCells]; exact hj)]
      simp [madeCells, Nat.mod_one, Value.cells]
    · rw [Array.getElem?_eq_none (show _ ≤ j by rw [size_madeCells]; omega), Array.getElem?_eq_none (show _ ≤ j by simp only [List.size_toArray, outC_len]; omega)]
  rw [hmc]
/-- A matrix as it lies: its rows behind its first block, in their order. -/
structure Mat (w : World) (O n : Nat) (M : Nat → Nat → Bool) : Prop where
  out : w.heap[O]? = some (.cells (outC O n n).toArray 49)
  rows : ∀ r, r < n → BRow w (O + 1 + r) n (M r)
def updM (M : Nat → Nat → Bool) (r s : Nat) (v : Bool) : Nat → Nat → Bool := fun a c => if a = r ∧ c = s then v else M a c
theorem Mat.row {w : World} {O n : Nat} {M : Nat → Nat → Bool} (h : Mat w O n M) {r : Nat} (hr : r < n) : w.cell? ⟨O, r, none⟩ = some (.slice (some ⟨O + 1 + r, 0, none⟩) n n) := by
  rw [cell_of_blk h.out, List.getElem?_toArray, outC_at hr, if_pos hr]
theorem Mat.ext {w : World} {O n : Nat} {M N : Nat → Nat → Bool} (h : Mat w O n M) (he : ∀ r s, r < n → s < n → M r s = N r s) : Mat w O n N :=
  ⟨h.out, fun r hr => (h.rows r hr).ext fun s hs => he r s hr hs⟩
theorem Mat.below {w w' : World} {O n : Nat} {M : Nat → Nat → Bool} (h : Mat w O n M) {B : Nat} (hb : Below B w w') (hB : O + 1 + n ≤ B) : Mat w' O n M :=
  ⟨(hb.block O (by omega)).trans h.out, fun r hr => (hb.block (O + 1 + r) (by omega)).trans (h.rows r hr)⟩
theorem Mat.drew {w : World} {O n : Nat} {M : Nat → Nat → Bool} (h : Mat w O n M) : Mat w.drew O n M := ⟨h.out, h.rows⟩
theorem Mat.lt {w : World} {O n : Nat} {M : Nat → Nat → Bool} (h : Mat w O n M) {r : Nat} (hr : r < n) : O + 1 + r < w.heap.size := (h.rows r hr).lt
theorem Mat.set {w : World} {O n : Nat} {M : Nat → Nat → Bool} (h : Mat w O n M) {r : Nat} (hr : r < n) (s : Nat) (v : Bool) : Mat (w.setCell ⟨O + 1 + r, s, none⟩ (.bool v)) O n (updM M r s v) := by
  have hg := grown_set w (O + 1 + r) s (.bool v)
  refine ⟨(hg.block O (by have := h.lt hr; omega) (fun e => by have := Option.some.inj e; omega)).trans h.out, fun a ha => ?_⟩
  by_cases e : a = r
  · subst e
    exact ((h.rows a ha).set s v).ext fun x _ => by unfold updB updM; by_cases q : x = s <;> simp [q]
  · have := (hg.block (O + 1 + a) (h.lt ha) (fun e2 => by have := Option.some.inj e2; omega)).trans (h.rows a ha)
    exact BRow.ext this fun x _ => by unfold updM; rw [if_neg fun q => e q.1]
/-- The matrix behind the first axioms. -/
def M1 (R : List (Int × Int)) (k r s : Nat) : Bool := decide (r = s) || (R.take k).any fun z => hop z r s
theorem M1_zero (R : List (Int × Int)) (r s : Nat) : M1 R 0 r s = decide (s = r) := by simp [M1, eq_comm]
theorem M1_next {R : List (Int × Int)} {k : Nat} (hk : k < R.length) {x y : Nat} (hx : R[k].1 = (x : Int)) (hy : R[k].2 = (y : Int)) (r s : Nat) : M1 R (k + 1) r s = updM (updM (M1 R k) x y true) (inv x) (inv y) true r s := by
  unfold M1 updM
  rw [List.take_succ_eq_append_getElem hk, List.any_append]
  simp only [List.any_cons, List.any_nil, Bool.or_false]
  have : hop R[k] r s = (decide (x = r ∧ y = s) || decide (inv x = r ∧ inv y = s)) := by
    unfold hop; rw [hx, hy]; simp
  rw [this]
  by_cases h1 : r = inv x ∧ s = inv y
  · rw [if_pos h1, decide_eq_true (show inv x = r ∧ inv y = s from ⟨h1.1.symm, h1.2.symm⟩)]; simp
  · rw [if_neg h1, decide_eq_false (fun h : inv x = r ∧ inv y = s => h1 ⟨h.1.symm, h.2.symm⟩), Bool.or_false]
    by_cases h2 : r = x ∧ s = y
    · rw [if_pos h2, decide_eq_true (show x = r ∧ y = s from ⟨h2.1.symm, h2.2.symm⟩)]; simp
    · rw [if_neg h2, decide_eq_false (fun h : x = r ∧ y = s => h2 ⟨h.1.symm, h.2.symm⟩)]; simp
theorem M1_end {R : List (Int × Int)} (r s : Nat) : M1 R R.length r s = fw (edge R) 0 r s := by
  rw [M1, List.take_length, fw, edge]
/-- The matrix within the round k, behind the rows below r and the cells of r below s. -/
def M3 (E : Nat → Nat → Bool) (k r s a c : Nat) : Bool := if a < r ∨ (a = r ∧ c < s) then fw E (k + 1) a c else fw E k a c
theorem M3_A (E : Nat → Nat → Bool) (k r s : Nat) : M3 E k r s r s = fw E k r s := by unfold M3; rw [if_neg (by omega)]
theorem M3_B (E : Nat → Nat → Bool) (k r s : Nat) : M3 E k r s r k = fw E k r k := by unfold M3; split; exact fw_col k r; rfl
theorem M3_C (E : Nat → Nat → Bool) (k r s : Nat) : M3 E k r s k s = fw E k k s := by unfold M3; split; exact fw_row k s; rfl
theorem M3_next (E : Nat → Nat → Bool) (k r s a c : Nat) : updM (M3 E k r s) r s (fw E k r s || (fw E k r k && fw E k k s)) a c = M3 E k r (s + 1) a c := by
  unfold updM M3
  by_cases h : a = r ∧ c = s
  · obtain ⟨rfl, rfl⟩ := h
    rw [if_pos ⟨rfl, rfl⟩, if_pos (by omega), fw]
  · rw [if_neg h]
    by_cases h2 : a < r ∨ (a = r ∧ c < s)
    · rw [if_pos h2, if_pos (by omega)]
    · rw [if_neg h2, if_neg (by omega)]
theorem M3_first (E : Nat → Nat → Bool) (k a c : Nat) : M3 E k 0 0 a c = fw E k a c := by unfold M3; rw [if_neg (by omega)]
theorem M3_row {E : Nat → Nat → Bool} {k r n a c : Nat} (hc : c < n) : M3 E k r n a c = M3 E k (r + 1) 0 a c := by
  unfold M3
  by_cases h : a < r ∨ (a = r ∧ c < n)
  · rw [if_pos h, if_pos (by omega)]
  · rw [if_neg h, if_neg (by omega)]
theorem M3_last {E : Nat → Nat → Bool} {k n a c : Nat} (ha : a < n) : M3 E k n 0 a c = fw E (k + 1) a c := by unfold M3; rw [if_pos (by omega)]
/-- The order of roles, as the reference hands it back. -/
def RetOrd (n : Nat) (E : Nat → Nat → Bool) (w : World) (e : Ending) (w' : World) : Prop := ∃ O, e = .returned (.slice (some ⟨O, 0, none⟩) n n) ∧ Mat w' O n (fw E n) ∧ Below w.heap.size w w'

set_option maxRecDepth 100000 in
set_option maxHeartbeats 16000000 in
theorem rOrder_any (b : BN) (n : Nat) (w : World) (hb : b.In w.heap.size w) (hn2 : 2 * (b.N.R.l.length : Int) = (n : Int)) (hn : n ≤ 12) (hr : b.R.l.length ≤ 60) (hin : ∀ z ∈ b.R.l, 0 ≤ z.1 ∧ 0 ≤ z.2 ∧ z.1 < (n : Int) ∧ z.2 < (n : Int)) : Calls Tryz.prog 31 #[b.val] w (RetOrd n (edge b.R.l) w) := by
  obtain ⟨W1, hW1, hB1, hs1, hk1⟩ := newBlk w _ rfl #[.slice b.N.C.A b.N.C.l.length b.N.C.c, .slice b.N.R.A b.N.R.l.length b.N.R.c, .slice b.N.I.A b.N.I.l.length b.N.I.c, .slice b.IA b.I.length b.ic, .slice b.R.A b.R.l.length b.R.c, .slice b.FA b.F.length b.fc, .slice b.L.A b.L.l.length b.L.c] 30
  obtain ⟨O, hO⟩ : ∃ O, w.heap.size + 1 = O := ⟨_, rfl⟩
  have hOw : w.heap.size < O := by omega
  rw [hO] at hs1
  obtain ⟨W2, hW2, hB2, hs2, hk2⟩ := newBlk W1 _ hs1 (outC O n 0).toArray 49
  have hmk2 := make_boolss n (by omega) W1
  rw [hs1, hW2] at hmk2
  have hbb := fun w' (h : Below O W1 w') => bbox_of (b := b) ((h.block w.heap.size hOw).trans hk1)
  have hrr := fun w' (h : Below O W1 w') => hb.r.2.2.below (Nat.le_refl _) (hB1.trans (h.mono (by omega)))
  have h2 : Below O W1 W2 := hB2
  obtain ⟨c0, c1, c2, c3, c4, c5, c6⟩ := hbb W1 (Below.refl _ _)
  have HBB := Lib.hid hbb
  have HRR := Lib.hid hrr
  have HB := Lib.hid hB1
  have HIN := Lib.hid hin
  have HR := Lib.hid hr
  have HK2 := Lib.hid hk2
  have hrl : b.R.l.length ≤ 9223372036854775807 := by omega
  have hnr : b.N.R.l.length ≤ 6 := by omega
  have HS1 := Lib.hid hs1
  simp only [BN.val]
  clear hbb hrr hB1 hB2 hk1 hin hr hk2 hb
  go_enter Tryz.func31, Tryz.ntmps31
  go_wp2_with fail
  clear c0 c1 c2 c3 c4 c5 c6
  go_loopw [20] (fun i' wr => ∃ k : Nat, k ≤ n ∧ i' = .int .i64 (k : Nat) ∧ wr.heap[O]? = some (.cells (outC O n k).toArray 49) ∧ (∀ r, r < k → BRow wr (O + 1 + r) n (fun s => decide (s = r))) ∧ wr.heap.size = O + 1 + k ∧ Below O W1 wr) (fun i' _ => n - (intOf i').toNat)
  case atStart => exact ⟨0, Nat.zero_le _, rfl, HK2.out, fun r h => absurd h (by omega), by rw [hs2], h2⟩
  case round =>
    rename World => wr
    obtain ⟨k, hk, rfl, hO1, hrows, hsz, hbw⟩ := hrel
    have h0k : (0 : Int) ≤ k := by omega
    by_cases hlt : k < n
    · have hlk : (k : Int) < n := by omega
      obtain ⟨Wa, hWa, hBa, hsa, hka⟩ := newBlk wr _ hsz (bcs (fun _ => false) n).toArray 4
      have hmk := make_bools n (by omega) wr
      rw [hsz, hWa] at hmk
      have hoa := (hBa.block O (by omega)).trans hO1
      have e0 := cell_of_blk hoa k
      rw [List.getElem?_toArray, outC_at hlt, if_neg (by omega)] at e0
      have f0 := frozen_of_blk hoa k
      have hob := blk_set hoa k (.slice (some ⟨O + 1 + k, 0, none⟩) n n)
      rw [outC_set] at hob
      have hgb := grown_set Wa O k (.slice (some ⟨O + 1 + k, 0, none⟩) n n)
      have hkb : BRow (Wa.setCell ⟨O, k, none⟩ (.slice (some ⟨O + 1 + k, 0, none⟩) n n)) (O + 1 + k) n (fun _ => false) := (hgb.block (O + 1 + k) (by omega) (fun e => by have := Option.some.inj e; omega)).trans hka
      have e1 := cell_of_blk hob k
      rw [List.getElem?_toArray, outC_at hlt, if_pos (by omega)] at e1
      have e2 := hkb.cell hlt
      have f2 := frozen_of_blk hkb k
      have hkc := hkb.set k true
      have hgc := grown_set (Wa.setCell ⟨O, k, none⟩ (.slice (some ⟨O + 1 + k, 0, none⟩) n n)) (O + 1 + k) k (.bool true)
      have hszb : (Wa.setCell ⟨O, k, none⟩ (.slice (some ⟨O + 1 + k, 0, none⟩) n n)).heap.size = O + 1 + k + 1 := by simp [hsa]
      have hoc := (hgc.block O (by rw [hszb]; omega) (fun e => by have := Option.some.inj e; omega)).trans hob
      have hrc : ∀ r, r < k → BRow ((Wa.setCell ⟨O, k, none⟩ (.slice (some ⟨O + 1 + k, 0, none⟩) n n)).setCell ⟨O + 1 + k, k, none⟩ (.bool true)) (O + 1 + r) n (fun s => decide (s = r)) := fun r h => (hgc.block (O + 1 + r) (by rw [hszb]; omega) (fun e => by have := Option.some.inj e; omega)).trans ((hgb.block (O + 1 + r) (by omega) (fun e => by have := Option.some.inj e; omega)).trans ((hBa.block (O + 1 + r) (by omega)).trans (hrows r h)))
      have hkd := hkc.ext (q := fun s => decide (s = k)) (fun x _ => by unfold updB; by_cases e : x = k <;> simp [e])
      have hba : Below O W1 Wa := hbw.trans (hBa.mono (by omega))
      have hbc : Below O W1 ((Wa.setCell ⟨O, k, none⟩ (.slice (some ⟨O + 1 + k, 0, none⟩) n n)).setCell ⟨O + 1 + k, k, none⟩ (.bool true)) := (hba.trans (below_grown hgb (Nat.le_refl _) (by omega))).trans (below_grown hgc (by omega) (by rw [hszb]; omega))
      have hszc : ((Wa.setCell ⟨O, k, none⟩ (.slice (some ⟨O + 1 + k, 0, none⟩) n n)).setCell ⟨O + 1 + k, k, none⟩ (.bool true)).heap.size = O + 1 + (k + 1) := by simp [hsa]; omega
      have HF := Lib.hid (And.intro hoc (And.intro hrc (And.intro hkd (And.intro hbc hszc))))
      clear hkb hkc hgc hgb hoc hrc hkd hba hbc hszc hszb hob hoa hO1 hrows hbw hka hBa
      go_wp2_with fail
      go_roundw
      case rel =>
        obtain ⟨m1, m2, m3, m4, m5⟩ := HF.out
        exact ⟨k + 1, by omega, by go_num, m1, fun r h => by
          by_cases e : r = k
          · subst e; exact m3
          · exact m2 r (by omega), m5, m4⟩
      case measure => simp [intOf]; omega
    · have hke : k = n := by omega
      subst hke
      have hmat : Mat wr O k (M1 b.R.l 0) := ⟨hO1, fun r h => (hrows r h).ext fun x _ => (M1_zero b.R.l r x).symm⟩
      have HOS := Lib.hid hsz
      obtain ⟨c0, c1, c2, c3, c4, c5, c6⟩ := HBB.out wr hbw
      have HBW := Lib.hid hbw
      have HM0 := Lib.hid hmat
      clear hO1 hrows hbw hmat hsz hmk2
      go_wp2_with fail
      clear c0 c1 c2 c3 c4 c5 c6
      go_loopw [38] (fun i' wq => ∃ j : Nat, j ≤ b.R.l.length ∧ i' = .int .i64 (j : Nat) ∧ Mat wq O k (M1 b.R.l j) ∧ Below O W1 wq ∧ O + 1 + k ≤ wq.heap.size) (fun i' _ => b.R.l.length - (intOf i').toNat)
      case atStart => exact ⟨0, Nat.zero_le _, rfl, HM0.out, HBW.out, by rw [HOS.out]; exact Nat.le_refl _⟩
      case round =>
        rename World => wq
        obtain ⟨j, hj, rfl, hm, hbq, hszq⟩ := hrel
        have h0j : (0 : Int) ≤ j := by omega
        by_cases hlj : j < b.R.l.length
        · have hlJ : (j : Int) < b.R.l.length := by omega
          obtain ⟨g, off, hA, hg, hc⟩ := RowAt.elem (f := pcells) (sz := 2) (fun _ => rfl) (HRR.out wq hbq) hlj
          have e0 := hc 0 (by omega)
          have e1 := hc 1 (by omega)
          obtain ⟨z0, z1, z2, z3⟩ := HIN.out _ (List.getElem_mem hlj)
          obtain ⟨x, hx⟩ := Int.eq_ofNat_of_zero_le z0
          obtain ⟨y, hy⟩ := Int.eq_ofNat_of_zero_le z1
          have hnx := M1_next hlj hx hy
          simp only [pcells, List.getElem?_cons_zero, List.getElem?_cons_succ, Nat.add_zero] at e0 e1
          rw [hx] at e0 z2
          rw [hy] at e1 z3
          have hx12 : x < k := by omega
          have hy12 : y < k := by omega
          have hkev : k % 2 = 0 := by omega
          have hix : inv x < k := by unfold inv; split <;> omega
          have hiy : inv y < k := by unfold inv; split <;> omega
          rw [hA]
          obtain ⟨Wx, hWx, hBx, hsx, hkx⟩ := newBlk wq _ rfl #[.int .i64 (x : Nat), .int .i64 (y : Nat)] 121
          obtain ⟨X, hX⟩ : ∃ X, wq.heap.size = X := ⟨_, rfl⟩
          rw [hX] at hszq hsx hkx hBx
          have hmx := (hm.below (hBx.mono hszq) (Nat.le_refl _)).drew
          obtain ⟨B1, hB1⟩ : ∃ B1, Wx.drew.setCell ⟨O + 1 + x, y, none⟩ (.bool true) = B1 := ⟨_, rfl⟩
          obtain ⟨C1, hC1⟩ : ∃ C1, B1.drew.setCell ⟨O + 1 + inv x, inv y, none⟩ (.bool true) = C1 := ⟨_, rfl⟩
          have hmy := hmx.set hx12 y true
          have hgy := grown_set Wx.drew (O + 1 + x) y (.bool true)
          rw [hB1] at hmy hgy
          have hmz := hmy.drew.set hix (inv y) true
          have hgz := grown_set B1.drew (O + 1 + inv x) (inv y) (.bool true)
          rw [hC1] at hmz hgz
          have hszy : X + 1 ≤ B1.drew.heap.size := by have := hgy.size; rw [← hsx]; exact this
          have hszz : O + 1 + k ≤ C1.heap.size := by have := hgz.size; omega
          have hXy : B1.drew.heap[X]? = _ := (hgy.block X (by show X < Wx.heap.size; omega) (fun e => by have := Option.some.inj e; omega)).trans hkx
          have hbx : Below O W1 Wx.drew := (hbq.trans (hBx.mono (by omega))).drew
          have hXz := (hgz.block X (by omega) (fun e => by have := Option.some.inj e; omega)).trans hXy
          have hby := hbx.trans (below_grown hgy (by omega) (by show O ≤ Wx.heap.size; omega))
          have hbz := hby.drew.trans (below_grown hgz (by omega) (by omega))
          have hS12 : ∀ w' : World, w'.heap[X]? = some (.cells #[.int .i64 (x : Nat), .int .i64 (y : Nat)] 121) → w'.heap[O]? = some (.cells (outC O k k).toArray 49) → w'.cell? ⟨X, 0, none⟩ = some (.int .i64 (x : Nat)) ∧ w'.cell? ⟨X, 1, none⟩ = some (.int .i64 (y : Nat)) ∧ w'.cell? ⟨O, x, none⟩ = some (.slice (some ⟨O + 1 + x, 0, none⟩) k k) ∧ w'.cell? ⟨O, inv x, none⟩ = some (.slice (some ⟨O + 1 + inv x, 0, none⟩) k k) := fun w' h1 h2 => ⟨cell_of_blk h1 0, cell_of_blk h1 1, by rw [cell_of_blk h2, List.getElem?_toArray, outC_at hx12, if_pos hx12], by rw [cell_of_blk h2, List.getElem?_toArray, outC_at hix, if_pos hix]⟩
          have hOX : O < X := by omega
          have hsa := fun w' (h : Below Wx.heap.size Wx w') => hS12 w' ((h.block X (by omega)).trans hkx) ((h.block O (by omega)).trans hmx.out)
          have hsb := hS12 B1 hXy hmy.out
          have hsc := fun w' (h : Below B1.heap.size B1 w') => hS12 w' ((h.block X (by have : X + 1 ≤ B1.heap.size := hszy; omega)).trans hXy) ((h.block O (by have : X + 1 ≤ B1.heap.size := hszy; omega)).trans hmy.out)
          have hsd := hS12 C1 hXz hmz.out
          have q0 := (hmx.rows x hx12).cell hy12
          have q1 := frozen_of_blk (hmx.rows x hx12) y
          have q2 := (hmy.drew.rows (inv x) hix).cell hiy
          have q3 := frozen_of_blk (hmy.drew.rows (inv x) hix) (inv y)
          have hgoal := Lib.hid (show ∃ j' : Nat, j' ≤ b.R.l.length ∧ Value.int .i64 ((j : Int) + 1) = .int .i64 (j' : Nat) ∧ Mat C1 O k (M1 b.R.l j') ∧ Below O W1 C1 ∧ O + 1 + k ≤ C1.heap.size from
            ⟨j + 1, hlj, by simp, hmz.ext fun r c _ _ => (hnx r c).symm, hbz, hszz⟩)
          have HI := Lib.hid (And.intro hx12 (And.intro hy12 (And.intro hix hiy)))
          have HSA := Lib.hid hsa
          have HSB := Lib.hid hsb
          have HSC := Lib.hid hsc
          have HSD := Lib.hid hsd
          have HQ := Lib.hid (And.intro q0 (And.intro q1 (And.intro q2 q3)))
          have HB1 := Lib.hid hB1
          have HC1 := Lib.hid hC1
          clear hm hmx hmy hmz hgy hgz hXy hXz hbx hby hbz hS12 hsa hsb hsc hsd q0 q1 q2 q3 hnx hkx hBx hx hy z0 z1 z2 z3 hc hA hszy hszz hbq hix hiy hx12 hy12 hkev hsx hszq hOX hB1 hC1 hg
          go_wp2_with fail
          refine ord12_any (O := O) (X := X) (n := k) (x := x) (y := y) (by omega) (by have := HI.out.1; omega) (by omega) (by have := HI.out.2.1; omega) _ Wx (fun w' h => ⟨(HSA.out w' h).1, (HSA.out w' h).2.1, (HSA.out w' h).2.2.1⟩) HQ.out.1 HQ.out.2.1 (by rw [HB1.out]; exact ⟨HSB.out.1, HSB.out.2.1, HSB.out.2.2.1⟩) _ _ _ _ _ _ _ _ _ _ _ _ _ _ _ _ _ _ _ _ _ _ _ _ _ _ _ _ _ _ _ _ _ _ _ _ _ _ _ _ _ _ _ _ _ _ _ _ _ _ _ _ _ _ _ _ _ _ _ _ _ _ _ _ _ _ _ _ _ _ _ _ _ _ _ _ _ _ _ _ _ _ _ _ _ _ _ _ _ _ _ _ _ _ _ _ _ _ _ _ _ _ _ _ _ _  (fun u42 u43 u44 u45 u46 u47 u48 u49 => ?_)
          rw [HB1.out]
          dsimp only
          go_wp2_with fail
          refine ord13_any (O := O) (X := X) (n := k) (x := x) (y := y) (by have := HI.out.1; omega) (by have := HI.out.2.1; omega) (by omega) (by have := HI.out.2.2.1; omega) (by omega) (by have := HI.out.2.2.2; omega) _ B1 (fun w' h => ⟨(HSC.out w' h).1, (HSC.out w' h).2.1, (HSC.out w' h).2.2.2⟩) HQ.out.2.2.1 HQ.out.2.2.2 (by rw [HC1.out]; exact ⟨HSD.out.1, HSD.out.2.1, HSD.out.2.2.2⟩) _ _ _ _ _ _ _ _ _ _ _ _ _ _ _ _ _ _ _ _ _ _ _ _ _ _ _ _ _ _ _ _ _ _ _ _ _ _ _ _ _ _ _ _ _ _ _ _ _ _ _ _ _ _ _ _ _ _ _ _ _ _ _ _ _ _ _ _ _ _ _ _ _ _ _ _ _ _ _ _ _ _ _ _ _ _ _ _ _ _ _ _ _ _ _ _ _ _ _ _ _ _ _ _ _ _  (fun v50 v51 v52 v53 v54 v55 v56 v57 v58 v59 => ?_)
          rw [HC1.out]
          dsimp only
          go_wp2_with fail
          go_roundw
          case rel => exact hgoal.out
          case measure => simp [intOf]; omega
        · have hje : j = b.R.l.length := by omega
          subst hje
          have hm0 : Mat wq O k (fw (edge b.R.l) 0) := hm.ext fun r c _ _ => M1_end r c
          have HM1 := Lib.hid hm0
          have HBQ := Lib.hid hbq
          have HSZ := Lib.hid hszq
          obtain ⟨E, hE⟩ : ∃ E, edge b.R.l = E := ⟨_, rfl⟩
          have HE := Lib.hid hE
          rw [hE] at HM1 ⊢
          clear hm hm0 hbq hszq h0j hj hlj hE
          go_wp2_with fail
          go_loopw [62] (fun i' w1 => ∃ m : Nat, m ≤ k ∧ i' = .int .i64 (m : Nat) ∧ Mat w1 O k (fw E m) ∧ Below O W1 w1 ∧ O + 1 + k ≤ w1.heap.size) (fun i' _ => k - (intOf i').toNat)
          case atStart => exact ⟨0, Nat.zero_le _, rfl, HM1.out, HBQ.out, HSZ.out⟩
          case round =>
            rename World => w1
            obtain ⟨m, hmk, rfl, hm1, hb1, hz1⟩ := hrel
            by_cases hlm : m < k
            · have h0m : (0 : Int) ≤ m := by omega
              have hlM : (m : Int) < k := by omega
              have HA := Lib.hid (And.intro hm1 (And.intro hb1 hz1))
              clear hm1 hb1 hz1
              go_wp2_with fail
              go_loopw [66] (fun i' w2 => ∃ r : Nat, r ≤ k ∧ i' = .int .i64 (r : Nat) ∧ Mat w2 O k (M3 E m r 0) ∧ Below O W1 w2 ∧ O + 1 + k ≤ w2.heap.size) (fun i' _ => k - (intOf i').toNat)
              case atStart => exact ⟨0, Nat.zero_le _, rfl, HA.out.1.ext fun a c _ _ => (M3_first E m a c).symm, HA.out.2⟩
              case round =>
                rename World => w2
                obtain ⟨r, hrk, rfl, hm2, hb2, hz2⟩ := hrel
                by_cases hlr : r < k
                · have h0r : (0 : Int) ≤ r := by omega
                  have hlR : (r : Int) < k := by omega
                  have HC := Lib.hid (And.intro hm2 (And.intro hb2 hz2))
                  clear hm2 hb2 hz2
                  go_wp2_with fail
                  go_loopw [70] (fun i' w3 => ∃ s : Nat, s ≤ k ∧ i' = .int .i64 (s : Nat) ∧ Mat w3 O k (M3 E m r s) ∧ Below O W1 w3 ∧ O + 1 + k ≤ w3.heap.size) (fun i' _ => k - (intOf i').toNat)
                  case atStart => exact ⟨0, Nat.zero_le _, rfl, HC.out⟩
                  case round =>
                    rename World => w3
                    obtain ⟨s, hsk, rfl, hm3, hb3, hz3⟩ := hrel
                    by_cases hls : s < k
                    · have h0s : (0 : Int) ≤ s := by omega
                      have hlS : (s : Int) < k := by omega
                      have hmd := hm3.drew
                      have e0 := hmd.row hlr
                      have e1 := hmd.row hlm
                      have e2 := (hmd.rows r hlr).cell hls
                      have e3 := (hmd.rows r hlr).cell hlm
                      have e4 := (hmd.rows m hlm).cell hls
                      have f2 := frozen_of_blk (hmd.rows r hlr) s
                      have hset := hmd.set hlr s (fw E m r s || (fw E m r m && fw E m m s))
                      have hg := grown_set w3.drew (O + 1 + r) s (.bool (fw E m r s || (fw E m r m && fw E m m s)))
                      have hnx := hset.ext fun a c _ _ => M3_next E m r s a c
                      have hz : O + 1 + k ≤ (w3.drew.setCell ⟨O + 1 + r, s, none⟩ (.bool (fw E m r s || (fw E m r m && fw E m m s)))).heap.size := Nat.le_trans hz3 hg.size
                      have hbz := hb3.drew.trans (below_grown hg (by omega) (by show O ≤ w3.heap.size; omega))
                      rw [M3_A] at e2
                      rw [M3_B] at e3
                      rw [M3_C] at e4
                      have hkey : ∀ M' : Nat → Nat → Bool, (∀ a c, M' a c = M3 E m r (s + 1) a c) → M' r m = fw E m r m ∧ M' m s = fw E m m s := fun M' h => ⟨by rw [h]; unfold M3; split; exact fw_col m r; rfl, by rw [h]; unfold M3; split; exact fw_row m s; rfl⟩
                      have hx0 := fun w' (h : Below w3.heap.size w3 w') => (hm3.below (B := w3.heap.size) h hz3)
                      have hcells : ∀ (w' : World) (M' : Nat → Nat → Bool), Mat w' O k M' → M' r m = fw E m r m → M' m s = fw E m m s → w'.cell? ⟨O, r, none⟩ = some (.slice (some ⟨O + 1 + r, 0, none⟩) k k) ∧ w'.cell? ⟨O, m, none⟩ = some (.slice (some ⟨O + 1 + m, 0, none⟩) k k) ∧ w'.cell? ⟨O + 1 + r, m, none⟩ = some (.bool (fw E m r m)) ∧ w'.cell? ⟨O + 1 + m, s, none⟩ = some (.bool (fw E m m s)) := fun w' M' h h1 h2 => ⟨h.row hlr, h.row hlm, by rw [(h.rows r hlr).cell hlm, h1], by rw [(h.rows m hlm).cell hls, h2]⟩
                      have hsA := fun w' (h : Below w3.heap.size w3 w') => hcells w' _ (hx0 w' h) (M3_B E m r s) (M3_C E m r s)
                      have hsB := hcells _ _ hset (hkey _ (M3_next E m r s)).1 (hkey _ (M3_next E m r s)).2
                      obtain ⟨A, hA⟩ : ∃ A, fw E m r s = A := ⟨_, rfl⟩
                      obtain ⟨B, hBe⟩ : ∃ B, fw E m r m = B := ⟨_, rfl⟩
                      obtain ⟨C, hC⟩ : ∃ C, fw E m m s = C := ⟨_, rfl⟩
                      rw [hA] at e2
                      rw [hBe] at e3
                      rw [hC] at e4
                      rw [hA, hBe, hC] at hnx hz hbz hsB
                      simp only [hBe, hC] at hsA
                      have HSA := Lib.hid hsA
                      have HSB := Lib.hid hsB
                      have HEF := Lib.hid (And.intro e2 f2)
                      have HZ := Lib.hid (And.intro hnx (And.intro hbz hz))
                      clear hmd hm3 hb3 hz3 hset hg hnx hz hbz hA hBe hC hkey hx0 hcells hsA hsB e0 e1 e2 e3 e4 f2
                      cases A
                      · cases B
                        · go_wp2_with fail
                          refine ord24c_any (_B := false) (O := O) (n := k) (r := r) (s := s) (k := m) h0r hlR h0s hlS h0m hlM _ w3 HSA.out HEF.out.1 HEF.out.2 HSB.out _ _ _ _ _ _ _ _ _ _ _ _ _ _ _ _ _ _ _ _ _ _ _ _ _ _ _ _ _ _ _ _ _ _ _ _ _ _ _ _ _ _ _ _ _ _ _ _ _ _ _ _ _ _ _ _ _ _ _ _ _ _ _ _ _ _ _ _ _ _ _ _ _ _ _ _ _ _ _ _ _ _ _ _ _ _ _ _ _ _ _ _ _ _ _ _ _ _ _ _ _ _ _ _ (fun q73 q74 q75 q76 q77 q78 q79 q80 q81 q82 q83 q84 q85 q86 q87 q88 q89 q90 q91 q92 q93 q94 q95 q96 q97 q98 q99 q100 q101 q102 q103 => ?_)
                          go_wp2_with fail
                          go_roundw
                          case rel => exact ⟨s + 1, by omega, by go_num, HZ.out⟩
                          case measure => simp [intOf]; omega
                        · go_wp2_with fail
                          refine ord24b_any (_B := true) (O := O) (n := k) (r := r) (s := s) (k := m) h0r hlR h0s hlS h0m hlM _ w3 HSA.out HEF.out.1 HEF.out.2 HSB.out _ _ _ _ _ _ _ _ _ _ _ _ _ _ _ _ _ _ _ _ _ _ _ _ _ _ _ _ _ _ _ _ _ _ _ _ _ _ _ _ _ _ _ _ _ _ _ _ _ _ _ _ _ _ _ _ _ _ _ _ _ _ _ _ _ _ _ _ _ _ _ _ _ _ _ _ _ _ _ _ _ _ _ _ _ _ _ _ _ _ _ _ _ _ _ _ _ _ _ _ _ _ _ _ (fun q73 q74 q75 q76 q77 q78 q79 q80 q81 q82 q83 q84 q85 q86 q87 q88 q89 q90 q91 q92 q93 q94 q95 q96 q97 q98 q99 q100 q101 q102 q103 => ?_)
                          go_wp2_with fail
                          go_roundw
                          case rel => exact ⟨s + 1, by omega, by go_num, HZ.out⟩
                          case measure => simp [intOf]; omega
                      · go_wp2_with fail
                        refine ord24a_any (O := O) (n := k) (r := r) (s := s) (k := m) h0r hlR h0s hlS h0m hlM _ w3 HSA.out HEF.out.1 HEF.out.2 HSB.out _ _ _ _ _ _ _ _ _ _ _ _ _ _ _ _ _ _ _ _ _ _ _ _ _ _ _ _ _ _ _ _ _ _ _ _ _ _ _ _ _ _ _ _ _ _ _ _ _ _ _ _ _ _ _ _ _ _ _ _ _ _ _ _ _ _ _ _ _ _ _ _ _ _ _ _ _ _ _ _ _ _ _ _ _ _ _ _ _ _ _ _ _ _ _ _ _ _ _ _ _ _ _ _ (fun q73 q74 q75 q76 q77 q78 q79 q80 q81 q82 q83 q84 q85 q86 q87 q88 q89 q90 q91 q92 q93 q94 q95 q96 q97 q98 q99 q100 q101 q102 q103 => ?_)
                        go_wp2_with fail
                        go_roundw
                        case rel => exact ⟨s + 1, by omega, by go_num, HZ.out⟩
                        case measure => simp [intOf]; omega
                    · have hse : s = k := by omega
                      subst hse
                      have HD := Lib.hid (And.intro (hm3.ext fun a c _ hc => M3_row (E := E) (k := m) (r := r) (a := a) hc) (And.intro hb3 hz3))
                      clear hm3 hb3 hz3
                      go_wp2_with fail
                      go_roundw
                      case rel => exact ⟨r + 1, by omega, by go_num, HD.out⟩
                      case measure => simp [intOf]; omega
                · have hre : r = k := by omega
                  subst hre
                  have HD := Lib.hid (And.intro (hm2.ext fun a c ha _ => M3_last (E := E) (k := m) (c := c) ha) (And.intro hb2 hz2))
                  clear hm2 hb2 hz2
                  go_wp2_with fail
                  go_roundw
                  case rel => exact ⟨m + 1, by omega, by go_num, HD.out⟩
                  case measure => simp [intOf]; omega
            · have hme : m = k := by omega
              subst hme
              have HD := Lib.hid (And.intro hm1 hb1)
              clear hm1 hb1 hz1
              go_wp2_with fail
              go_ret
              exact ⟨O, rfl, by rw [HE.out]; exact HD.out.1, HB.out.trans (HD.out.2.mono (by omega))⟩
end Go.Proofs.YtffibneelaeocaaGreatDoor

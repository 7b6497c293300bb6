/- Looks at the operation that comes next, and nothing else: so that a law is tried there alone (under 'with_reducible'). -/
import Derived.WalkKit
namespace Go.Proofs.Ytodigmmpodbpiaa
set_option maxRecDepth 20000
open Go.RowKit

theorem at_ld {P : Program} {ops : Array Oper} {Q : Exit → Act → World → Prop} {rest : List Oper} {a : Act} {w : World} {dst : Option Tmp} {ty t : TypeId} {p : String} {f : Array Edge} {g : Option (Nat × Bool)} (s : Nat)
    (h : wpList P ops Q (Oper.mk dst (.load ty (.tmp s)) t p f g :: rest) a w) : wpList P ops Q (Oper.mk dst (.load ty (.tmp s)) t p f g :: rest) a w := h

theorem at_ldd {P : Program} {ops : Array Oper} {Q : Exit → Act → World → Prop} {rest : List Oper} {a : Act} {w : World} {ty t : TypeId} {p : String} {f : Array Edge} {g : Option (Nat × Bool)} (k s : Nat)
    (h : wpList P ops Q (Oper.mk (some k) (.load ty (.tmp s)) t p f g :: rest) a w) : wpList P ops Q (Oper.mk (some k) (.load ty (.tmp s)) t p f g :: rest) a w := h

theorem at_st {P : Program} {ops : Array Oper} {Q : Exit → Act → World → Prop} {rest : List Oper} {a : Act} {w : World} {dst : Option Tmp} {ty t : TypeId} {p : String} {f : Array Edge} {g : Option (Nat × Bool)} {y : Operand} (s : Nat)
    (h : wpList P ops Q (Oper.mk dst (.store ty (.tmp s) y) t p f g :: rest) a w) : wpList P ops Q (Oper.mk dst (.store ty (.tmp s) y) t p f g :: rest) a w := h

theorem at_al {P : Program} {ops : Array Oper} {Q : Exit → Act → World → Prop} {rest : List Oper} {a : Act} {w : World} {dst : Option Tmp} {ty t : TypeId} {p : String} {f : Array Edge} {g : Option (Nat × Bool)} 
    (h : wpList P ops Q (Oper.mk dst (.alloc ty) t p f g :: rest) a w) : wpList P ops Q (Oper.mk dst (.alloc ty) t p f g :: rest) a w := h

theorem at_bx {P : Program} {ops : Array Oper} {Q : Exit → Act → World → Prop} {rest : List Oper} {a : Act} {w : World} {dst : Option Tmp} {ty t : TypeId} {p : String} {f : Array Edge} {g : Option (Nat × Bool)} {x : Operand}
    (h : wpList P ops Q (Oper.mk dst (.box ty x) t p f g :: rest) a w) : wpList P ops Q (Oper.mk dst (.box ty x) t p f g :: rest) a w := h

theorem at_bd {P : Program} {ops : Array Oper} {Q : Exit → Act → World → Prop} {rest : List Oper} {a : Act} {w : World} {dst : Option Tmp} {ty t : TypeId} {p : String} {f : Array Edge} {g : Option (Nat × Bool)} {x : Array (Nat × Operand)}
    (h : wpList P ops Q (Oper.mk dst (.build ty x) t p f g :: rest) a w) : wpList P ops Q (Oper.mk dst (.build ty x) t p f g :: rest) a w := h

theorem at_ald {P : Program} {ops : Array Oper} {Q : Exit → Act → World → Prop} {rest : List Oper} {a : Act} {w : World} {ty t : TypeId} {p : String} {f : Array Edge} {g : Option (Nat × Bool)} (k : Nat)
    (h : wpList P ops Q (Oper.mk (some k) (.alloc ty) t p f g :: rest) a w) : wpList P ops Q (Oper.mk (some k) (.alloc ty) t p f g :: rest) a w := h

theorem at_bxd {P : Program} {ops : Array Oper} {Q : Exit → Act → World → Prop} {rest : List Oper} {a : Act} {w : World} {ty t : TypeId} {p : String} {f : Array Edge} {g : Option (Nat × Bool)} {x : Operand} (k : Nat)
    (h : wpList P ops Q (Oper.mk (some k) (.box ty x) t p f g :: rest) a w) : wpList P ops Q (Oper.mk (some k) (.box ty x) t p f g :: rest) a w := h

theorem at_cd {P : Program} {ops : Array Oper} {Q : Exit → Act → World → Prop} {rest : List Oper} {a : Act} {w : World} {t : TypeId} {p : String} {f : Array Edge} {g : Option (Nat × Bool)} {c : Call} (k : Nat)
    (h : wpList P ops Q (Oper.mk (some k) (.call c) t p f g :: rest) a w) : wpList P ops Q (Oper.mk (some k) (.call c) t p f g :: rest) a w := h

theorem at_bdd {P : Program} {ops : Array Oper} {Q : Exit → Act → World → Prop} {rest : List Oper} {a : Act} {w : World} {ty t : TypeId} {p : String} {f : Array Edge} {g : Option (Nat × Bool)} {x : Array (Nat × Operand)} (k : Nat)
    (h : wpList P ops Q (Oper.mk (some k) (.build ty x) t p f g :: rest) a w) : wpList P ops Q (Oper.mk (some k) (.build ty x) t p f g :: rest) a w := h

end Go.Proofs.Ytodigmmpodbpiaa

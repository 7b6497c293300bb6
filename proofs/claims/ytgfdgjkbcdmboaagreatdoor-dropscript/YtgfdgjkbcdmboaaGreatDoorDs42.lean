/- A map from numbers to numbers of the walk's own. -/
import Derived.Maps.OwnSet
import Derived.Maps.RangeWalk
import Derived.Maps.OwnOps
import Derived.Maps.Views
import Derived.Test.YtgfdgjkbcdmboaaGreatDoorDs41
import Derived.Test.YtgfdgjkbcdmboaaGreatDoorDs39
namespace Go.Proofs.YtgfdgjkbcdmboaaGreatDoor
variable {S fr:List Nat}
variable {b g gs q room:Nat}
variable {bs zs:Lq}
variable {cs:Lz}
variable {v:Value}
variable {w w1 w3:World}
set_option maxRecDepth 20000
open Go.RowKit
abbrev kl7 (x:Int):Lit:=.int .i64 x
abbrev Wfi (x:Int):Prop:=(Lit.int .i64 x).wf=true
def SM (w:World) (b n:Nat) (f:Int→Nat):Prop:=∃D:DataW Unit,w.ownsMap Tryz.prog 3 (plainElem Tryz.prog 3) b n D∧∀x,D.atKey (kl7 x) (.lit (.int .i64 0))=.lit (.int .i64 (f x:Int))
def fsum (cs:Lz) (L:List Nat) (k:Nat) (x:Int):Nat:=((L.take k).map fun h=>(if ((ce cs (h-1)).l:Int)=x then 1 else 0)+(if ((ce cs (h-1)).r:Int)=x then 1 else 0)).sum
def Hx (w0 w:World) (X:List (Nat×Obj)) (g gs room:Nat) (cs:Lz) (fr:List Nat):Prop:=(∃vp vf,Stm w g gs vp vf room cs fr∧(∀k∈stB g gs vp vf cs,w0.heap.size≤k)∧Kb w0 w∧∀x∈X,w.heap[x.1]?=some x.2∧x.1 ∉ stB g gs vp vf cs)∧Wf cs []
section
variable {w0 w w1 w2:World} {S:List Nat} {g gs q room:Nat} {cs:Lz} {fr:List Nat}
theorem P7.rebase (h:P7 w S w g gs q room cs fr) (hb:Kb w w1):P7 w1 S w1 g gs q room cs fr:=by
 obtain ⟨ss,⟨vp,vf,vp2,vf2,s,d,ap,m,n1,n2⟩,R,W⟩:=h;refine ⟨ss,⟨vp,vf,vp2,vf2,s.grow hb,d.grow hb,ap,Mod.refl _ _,fun k hk=>?_,fun k hk=>?_⟩,R,W⟩
 ·rcases n1 k hk with e | e
  ·exact .inl e
  ·have:=s.lts k hk;omega
 ·rcases n2 k hk with e | e
  ·exact .inl e
  ·have:=d.lts k hk;omega
theorem P7.back (hb:Kb w w1) (h:P7 w1 S w2 g gs q room cs fr):P7 w S w2 g gs q room cs fr:=by
 obtain ⟨ss,⟨vp,vf,vp2,vf2,s,d,ap,m,n1,n2⟩,R,W⟩:=h;refine ⟨ss,⟨vp,vf,vp2,vf2,s,d,ap,(Mod.of_below hb S).trans' m,fun k hk=>?_,fun k hk=>?_⟩,R,W⟩
 ·rcases n1 k hk with e | e
  ·exact .inl e
  ·exact .inr (Nat.le_trans hb.size e)
 ·rcases n2 k hk with e | e
  ·exact .inl e
  ·exact .inr (Nat.le_trans hb.size e)
theorem P7.over (hb:Kb w w1) (h:P7 w1 S w2 g gs q room cs fr) (h1:w.heap.size≤b) (h2:b<w1.heap.size) (h3:b ∉ S) (hg:w2.grownBy w3 (some b)):P7 w S w3 g gs q room cs fr:=by
 have m3:Mod [b] w2 w3:=Mod.of_some hg (by simp);have hb':=P7.back hb h;obtain ⟨ss,⟨vp,vf,vp2,vf2,s,d,ap,m,n1,n2⟩,R,W⟩:=h;have a1:∀k∈stB g gs vp vf cs,k ∉ [b]:=fun k hk e=>by
  obtain rfl:k=b:=by simpa using e
  rcases n1 k hk with e | e
  ·exact h3 e
  ·omega
 have a2:∀k∈rsB q vp2 vf2 ss,k ∉ [b]:=fun k hk e=>by
  obtain rfl:k=b:=by simpa using e
  rcases n2 k hk with e | e
  ·exact h3 e
  ·omega
 refine ⟨ss,⟨vp,vf,vp2,vf2,s.mod m3 a1,d.mod m3 a2,ap,hb'.mod.trans (fun k hk=>.inr ?_) m3,fun k hk=>?_,fun k hk=>?_⟩,R,W⟩
 ·obtain rfl:k=b:=by simpa using hk
  exact h1
 ·rcases n1 k hk with e | e
  ·exact .inl e
  ·exact .inr (Nat.le_trans hb.size e)
 ·rcases n2 k hk with e | e
  ·exact .inl e
  ·exact .inr (Nat.le_trans hb.size e)
theorem Yfl (h:P7 w0 S w g gs q room cs fr) (h5:room≤5000) (hL:Laid w) (deep:Bool) (hd:deep=true→room≤60):Kc 11 #[.pointer (some ⟨g,0,none⟩),.pointer (some ⟨q,0,none⟩),.bool deep] w fun e w'=>e=.returned (.bool true)∧Kb w w':=by
 have hl:=h.inv.lenC;obtain ⟨ss,⟨vp,vf,vp2,vf2,s,d,ap,m,n1,n2⟩,R,W⟩:=h;exact Ykw s d R W hL (by omega) deep (fun e=>by have:=hd e;omega)
end
theorem Kq.row (h:Row w b zs) (hn:b ∉ S):Kq S w (fun w'=>Row w' b zs):=fun _ m=>h.of_block (m.block b h.lt hn)
def ActPost7 (w0:World) (S:List Nat) (g gs q room:Nat) (e:Ending) (w':World):Prop:=e=.returned (.bool true)∧∃cs fr,P7 w0 S w' g gs q room cs fr
theorem Zxv (h:Row w b (zs++marks zs.length)) (hb:Bytes zs) (hl:zs.length≤2000):Own 0 w (.slice (some ⟨b,0,none⟩) zs.length (zs.length+5)) zs (marks zs.length):=by
 have h1:=Own.mk (base:=0) hb (Zjf zs.length) (by rw [Zbp];simp only [maxLen];omega) (Nat.zero_le _) h;rw [Zbp] at h1;exact h1
def Lent7 (w:World) (S:List Nat) (g gs q room:Nat) (cs:Lz) (fr:List Nat) (bs:Lq) (b:Nat) (w2:World):Prop:=Kb w w2∧w.heap.size≤b∧b<w2.heap.size∧b ∉ S∧Kq S w2 (fun w'=>Own 0 w' (.slice (some ⟨b,0,none⟩) bs.length (bs.length+5)) bs (marks bs.length))∧Kq S w2 (fun w'=>Row w' b (bs++marks bs.length))∧P7 w2 S w2 g gs q room cs fr
theorem Yle (HS:∀b,w.heap.size≤b→b ∉ S) (h:P7 w S w g gs q room cs fr) (hb:Kb w w1) (hr:Kq S w fun w'=>Reads w' v bs) (hl:bs.length≤2000):Kc 125 #[v] w1 fun e w2=>∃b,e=.returned (.slice (some ⟨b,0,none⟩) bs.length (bs.length+5))∧Lent7 w S g gs q room cs fr bs b w2∧Kb w1 w2:=by
 have hr1:=(hr.grow hb).now;have hby:Bytes bs:=by obtain ⟨_,_,_,_,_,hb,_⟩:=hr1;exact hb
 refine (Zrt v bs w1 hr1 (by omega)).mono ?_;rintro e w2 ⟨rfl,r2,b2,s2⟩;have hn:=HS _ hb.size;have k:=Kq.row r2 hn;exact ⟨_,rfl,⟨Zb hb b2,hb.size,by omega,hn,k.imp fun w' _ r=>Zxv r hby hl,k,h.rebase (Zb hb b2)⟩,b2⟩
end Go.Proofs.YtgfdgjkbcdmboaaGreatDoor

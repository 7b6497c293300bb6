/- rootcellarkit.LentPairs and KeptPairs, as contracts. -/
import Derived.Test.YtabiglnmfdpcfaaGreatDoorBz01
import Derived.Test.YtabiglnmfdpcfaaGreatDoorBz33
import Derived.Test.YtabiglnmfdpcfaaGreatDoorBz36
import Derived.Test.YtabiglnmfdpcfaaGreatDoorBz12
import Derived.Test.YtabiglnmfdpcfaaGreatDoorBz32
import Derived.Test.YtabiglnmfdpcfaaGreatDoorBz40
namespace Go.Proofs.YtabiglnmfdpcfaaGreatDoor
variable {base c g k n:Nat}
variable {v:Value}
variable {w w':World}
variable {zs:Lq}
set_option maxHeartbeats 8000000
set_option maxRecDepth 20000
open Go.RowKit

theorem setCells_other {g k:Nat} (hne:k≠g):∀(vs:List Value) (o:Nat) (w:World),(w.setCells g o vs).heap[k]?=w.heap[k]?
  | [],_,_=>rfl
  | v::r,o,w=>by
    rw [World.setCells,setCells_other hne r (o+1),heap_setCell_other w ⟨g,o,none⟩ k v (fun e=>hne e)]

def lvP (es:List Ent) (G:Nat→Nat) (i:Nat):Value:=.slice (some ⟨G i,0,none⟩) (es.getD i e00).2.length ((es.getD i e00).2.length+5)

structure LentP (w:World) (g k:Nat) (G:Nat→Nat) (es:List Ent):Prop where
  pair:∀i,i<k→w.rangeAt g (i * 33) (encP (es.getD i e00).1 (lvP es G i))
  row:∀i,i<k→Row w (G i) ((es.getD i e00).2++marks (es.getD i e00).2.length)
  spare:∀j,j<2→w.rangeAt g ((es.length+j) * 33) (encP z32 (.slice none 0 0))

theorem lent_reads (h:Row w g (zs++marks zs.length)) (hb:Bytes zs):Reads w (.slice (some ⟨g,0,none⟩) zs.length (zs.length+5)) zs:=by
  refine ⟨_,_,rfl,by omega,(fun e=>by cases e),hb,fun _=>⟨g,0,rfl,fun i hi=>?_⟩⟩;rw [Nat.zero_add,h.cell i (by simp;omega)];simp [List.getD,hi,List.getElem?_append_left hi]

def prPlaces:Nat→Option (Nat×Nat):=fun i=>(#[(0,32),(32,1)]:Array (Nat×Nat))[i]?

def LentPost (es:List Ent) (w:World) (e:Ending) (w':World):Prop:=∃g G,e=.returned (.slice (some ⟨g,0,none⟩) es.length (es.length+2))∧w.heap.size≤g∧LentP w' g es.length G es∧Kb w w'

end Go.Proofs.YtabiglnmfdpcfaaGreatDoor

namespace Go.Proofs.YtabiglnmfdpcfaaGreatDoor
variable {base c g k n:Nat}
variable {v:Value}
variable {w w':World}
variable {zs:Lq}
set_option maxHeartbeats 8000000
set_option maxRecDepth 20000
open Go.RowKit

theorem built_wkgv (K b:Lq) (g:Bool) (a:Option Addr) (l c:Nat) (hk:K.length=32):Tryz.prog.built 37 [(0,.agg (B K)),(1,.bool g),(2,.slice a l c)]=some (encW ⟨K,g,b,.slice a l c⟩).toArray:=by
  obtain ⟨e1,e2,e3,e4⟩:=enc_part K (.bool false) (.slice none 0 0) hk;obtain ⟨f1,f2,f3,f4⟩:=enc_part K (.bool g) (.slice none 0 0) hk;rw [builtW_eq,fillW_key K _ hk,fill_one wrPlaces 1 32 1 _ [.bool g] _ _ rfl rfl rfl (by simp [hk]),show 32+1=33 from rfl,e1,e4];rw [show K.map (Value.int .u8)++[Value.bool g]++[Value.slice none 0 0]=K.map (Value.int .u8)++[Value.bool g,Value.slice none 0 0] by simp];rw [fill_one wrPlaces 2 33 1 _ [.slice a l c] _ _ rfl rfl rfl (by simp [hk]),Instr.fill,show 33+1=34 from rfl,f2,f3];simp [encW]

def lwW (ls:List Wt) (G:Nat→Nat) (i:Nat):Wt:=⟨ls[i]!.k,ls[i]!.g,ls[i]!.b,.slice (some ⟨G i,0,none⟩) ls[i]!.b.length (ls[i]!.b.length+5)⟩
structure LentWr (w:World) (g k:Nat) (G:Nat→Nat) (ls:List Wt):Prop where
  pair:∀i,i<k→w.rangeAt g (i * 34) (encW (lwW ls G i))
  row:∀i,i<k→Row w (G i) (ls[i]!.b++marks ls[i]!.b.length)
theorem LentWr.grow {G:Nat→Nat} {ls:List Wt} (h:LentWr w g k G ls) (hb:Kb w w'):LentWr w' g k G ls:=
  ⟨fun i hi=>rngW_grow (h.pair i hi) hb,fun i hi=>(h.row i hi).of_block (hb.block _ (h.row i hi).lt)⟩
def lwL (ls:List Wt) (G:Nat→Nat):List Wt:=(List.range ls.length).map (lwW ls G)
theorem lwL_len (ls:List Wt) (G:Nat→Nat):(lwL ls G).length=ls.length:=by simp [lwL]
theorem lwL_get (ls:List Wt) (G:Nat→Nat) (i:Nat) (h:i<ls.length):(lwL ls G)[i]! =lwW ls G i:=by
  rw [getElem!_pos _ i (by rw [lwL_len];exact h)];simp [lwL]
theorem lwL_nrm (ls:List Wt) (G:Nat→Nat):(lwL ls G).map nrm=ls.map nrm:=by
  apply List.ext_getElem (by simp [lwL]);intro i h1 h2;simp [lwL] at h1;simp [lwL,lwW,nrm,h1]
theorem LentWr.wrAt {G:Nat→Nat} {ls:List Wt} (h:LentWr w g ls.length G ls) (hok:∀x∈ls,WtOk x):WrAt w (.slice (some ⟨g,0,none⟩) ls.length (ls.length+2)) (lwL ls G):=by
  have hx:∀x∈lwL ls G,WtOk x∧Reads w x.v x.b:=fun x hx=>by
    unfold lwL at hx;obtain ⟨i,hi,rfl⟩:=List.mem_map.1 hx;have hi:=List.mem_range.1 hi;have ok:WtOk ls[i]!:=by rw [getElem!_pos ls i hi];exact hok _ (List.getElem_mem hi)
    exact ⟨⟨ok.hk,ok.hb,_,_,rfl⟩,lent_reads (h.row i hi) ok.hb⟩
  refine ⟨_,_,by rw [lwL_len],by rw [lwL_len];omega,fun e=>(by cases e),fun _=>⟨g,0,rfl,fun i hi=>?_⟩,fun x hm=>(hx x hm).1,fun x hm=>(hx x hm).2⟩;rw [lwL_len] at hi;rw [Nat.zero_add,lwL_get ls G i hi];exact h.pair i hi

theorem wpList_mkw {ops:Array Oper} {rest:List Oper} {o:Oper} {a:Act} {Q:Exit→Act→World→Prop} (w:World) (hgd:o.guard=none) (x y:Operand)
    (hop:o.op=Op.makeSlice 23 x y) (n:Nat) (hx:a.eval x=.int .i64 n) (hy:a.eval y=.int .i64 ((n:Int)+2)) (hn:n≤65536)
    (h:∀w' g,w.heap.size≤g→g<w'.heap.size→(∀i,i<n+2→w'.there g (i * 34) 34)→Kb w w'→wpList Tryz.prog ops Q rest (a.put o.dst (.slice (some ⟨g,0,none⟩) n (n+2))) w'):
    wpList Tryz.prog ops Q (o::rest) a w:=by
  refine wpList_plain hgd fun K hK=>?_
  obtain ⟨i,z,hi,hz,hs,hby⟩:∃i z,Tryz.prog.info? 37=some i∧i.zero=some z∧i.size=34∧i.bytes=64:=⟨_,_,rfl,rfl,rfl,rfl⟩;have hr:=run_make (P:=Tryz.prog) w 23 37 i z Tryz.underlying23 hi hz .i64 .i64 n ((n:Int)+2) (by omega) (by omega) (by rw [hby];omega) (by omega);rw [hs] at hr;have e1:((n:Int)+2).toNat=n+2:=by omega
  simp only [Int.toNat_natCast,e1] at hr;have hB:Blk (w.alloc (.cells (madeCells z.cells ((n+2) * 34)) 37)) w.heap.size 37 _:=Blk.new w _ _;unfold Oper.wp;simp [execOp,hop,hx,hy,hr,Result.andThen];exact hK _ _ (h _ w.heap.size (Nat.le_refl _) (by simp) (fun j hj=>hB.there _ _ (by rw [size_madeCells];omega)) (grow_alloc w _))

def LentWPost (ls:List Wt) (w:World) (e:Ending) (w':World):Prop:=∃g G,e=.returned (.slice (some ⟨g,0,none⟩) ls.length (ls.length+2))∧w.heap.size≤g∧(∀i,i<ls.length→w.heap.size≤G i)∧(∀i j,i<ls.length→j<ls.length→i≠j→G i≠G j)∧LentWr w' g ls.length G ls∧Kb w w'

set_option maxRecDepth 100000 in
theorem lentWrites_any (v:Value) (ls:List Wt) (w:World) (h:WrAt w v ls) (hn:ls.length≤65536) (hl:∀x∈ls,x.b.length≤140737488355328-4096):
    Kc 12 #[v] w (LentWPost ls w):=by
  have HWR:=hidden h;obtain ⟨a,cap,rfl,hcap,hnone,hc,hok,hrd⟩:=id h;have HC:=hidden hc;have HLE:=hidden hl;obtain ⟨n,hnn⟩:∃n,n=ls.length:=⟨_,rfl⟩;have HN:=hidden hnn;have HPost:Hid (∀w' g G,w.heap.size≤g→(∀i,i<n→w.heap.size≤G i)→(∀i j,i<n→j<n→i≠j→G i≠G j)→LentWr w' g n G ls→Kb w w'→LentWPost ls w (.returned (.slice (some ⟨g,0,none⟩) n (n+2))) w'):=fun w' g G h1 h2 h4 h5 h3=>⟨g,G,by rw [hnn],h1,by rw [← hnn];exact h2,by rw [← hnn];exact h4,by rw [← hnn];exact h5,h3⟩
  rw [← hnn] at hn ⊢;have hw2:IntKind.i64.wrap ((n:Int)+2)=(n:Int)+2:=by rw [IntKind.wrap_i64];omega
  have HN6:=hidden hn;clear hc hcap hnn hl h hok hrd hnone hn;go_enter Tryz.func12,Tryz.ntmps12
  go_wp2_with (first
    |(refine wpList_mkw _ rfl _ _ rfl n rfl rfl HN6.out ?_;intro w1 g hg hgl hz b1))
  have HG:=hidden hg;have HT0:Hid (∀i,i<n→w1.there g (i * 34) 34):=fun i hi=>hz i (by omega)
  have HGL:=hidden hgl;have HL0:Hid (LentWr w1 g 0 (fun _=>0) ls):=⟨fun i hi=>by omega,fun i hi=>by omega⟩;clear hz hg hgl hw2
  go_loopw [4] (fun i wr=>∃(k:Nat) (G:Nat→Nat),k≤n∧i=.int .i64 k∧Hid (LentWr wr g k G ls)∧Hid (∀i,i<n→wr.there g (i * 34) 34)∧Hid (g<wr.heap.size)∧Hid (∀i,i<k→G i≠g∧w.heap.size≤G i∧G i<wr.heap.size)∧Hid (∀i j,i<k→j<k→i≠j→G i≠G j)∧Kb w wr) (fun i _=>n-(intOf i).toNat)
  case atStart=>exact ⟨0,_,by omega,rfl,HL0,HT0,HGL,fun i hi=>by omega,fun i j hi=>by omega,b1⟩
  case round=>
    obtain ⟨k,G,hk,rfl,hlp,hth,hgl,hne,hap,hbw⟩:=hrel
    by_cases hlt:k<n
    · as_aux_lemma=>
        have hlt':k<ls.length:=by rw [← HN.out];exact hlt
        obtain ⟨ga,off,rfl,hcc⟩:=HC.out (by omega);have z1:(k:Int)<(n:Int):=by omega
        have z0:(0:Int)≤(k:Int):=by omega
        obtain ⟨X,hX⟩:∃X,X=ls[k]!:=⟨_,rfl⟩;have hXm:X∈ls:=by rw [hX,getElem!_pos ls k hlt'];exact List.getElem_mem hlt'
        have hXo:=HWR.out.ok X hXm;have hXr:=HWR.out.reads X hXm;have hXl:=HLE.out X hXm;obtain ⟨xa,xc,hxv⟩:=hXo.hv;obtain ⟨xl,hxl⟩:∃xl,xl=X.b.length:=⟨_,rfl⟩;rw [← hxl] at hxv;obtain ⟨xg,hxg⟩:∃xg,xg=X.g:=⟨_,rfl⟩;have HXE:Hid (X.v=.slice xa xl xc∧xg=X.g∧xl=X.b.length):=⟨hxv,hxg,hxl⟩;have HLT:Hid (∀w',Kb w w'→Kc 38 #[.slice xa xl xc] w' fun e w''=>∃q,e=.returned (.slice (some ⟨q,0,none⟩) xl (xl+5))∧w'.heap.size≤q∧Row w'' q (X.b++marks xl)∧Below w'.heap.size w' w''):=fun w' hb=>by
          rw [← hxv,hxl];exact (lent_any X.v _ w' (hXr.grow hb) (by omega)).mono fun _ _ ⟨h1,h2,h3,_⟩=>⟨_,h1,Nat.le_refl _,h2,h3⟩
        have HS:Hid (∀w',Kb w w'→w'.rangeAt ga (off+k * 34) (encW X)):=fun w' hw'=>by rw [hX];exact rngW_grow (hcc k hlt') hw'
        have HKL:=hidden hXo.hk.1;have HXO:=hidden hXo;have HXK:=hidden hX;have HLK:Hid ((Tryz.prog.info? 34).map (·.size)=some (B X.k).toList.length):=by show _=_;rw [B_toList,List.length_map,HKL.out];exact sz_path0
        have HBP:Hid (∀q,Tryz.prog.built 37 [(0,.agg (B X.k)),(1,.bool xg),(2,.slice (some ⟨q,0,none⟩) xl (xl+5))]=some (encW ⟨X.k,xg,X.b,.slice (some ⟨q,0,none⟩) xl (xl+5)⟩).toArray):=fun q=>built_wkgv X.k X.b xg _ _ _ HKL.out
        obtain ⟨j,hj⟩:∃j,j=k+1:=⟨_,rfl⟩;have HJ:=hidden hj;have hwi:=w64_succ (k:=k) (by have:=HN6.out;omega) hj;clear hcc hX hXm hXo hXr hXl hxv hxl hxg hlt' hj
        go_wp2_with fail
        have d0:Kb w wr.drew:=grow_trans hbw (Below.refl _ _).drew;refine wp_region_held_drew (S:=fun w'=>w'.rangeAt ga (off+k * 34) (encW X)) (by kernel_rfl) (HS.out _ d0) (fun hHeld=>?_);refine tkp 0 (.slice (some ⟨g,0,none⟩) n (n+2)) hHeld ?_;simp only [Act.put,zq1,zq2,zq4,zq5,zq6];refine tkp 1 (.int .i64 (k:Int)) hHeld ?_;simp only [Act.put,zq1,zq2,zq3,zq4,zq5,zq6];refine tkp 2 (.slice (some ⟨ga,off,none⟩) n cap) hHeld ?_;simp only [Act.put,zq1,zq2,zq3,zq4,zq5,zq6];refine tkp 3 (.int .i64 (k:Int)) hHeld ?_;simp only [Act.put,zq1,zq2,zq3,zq4,zq5,zq6];refine tkp 4 (.pointer (some ⟨ga,off+k * 34,none⟩)) hHeld ?_;simp only [Act.put,zq1,zq2,zq3,zq4,zq5,zq6];refine tkp 5 (.pointer (some ⟨ga,off+k * 34,none⟩)) hHeld ?_;simp only [Act.put,zq1,zq2,zq3,zq4,zq5,zq6];refine tkg 6 (.agg (B X.k)) rfl (yieldsIf_load_mid rfl 34 (.tmp 22) rfl ga (off+k * 34) rfl (B X.k).toList _ (fun w hS=>encW_key hS) Tryz.underlying34 rfl HLK.out) hHeld ?_;simp only [Act.put,zq1,zq2,zq3,zq4,zq5,zq6];refine tkp 7 (.slice (some ⟨ga,off,none⟩) n cap) hHeld ?_;simp only [Act.put,zq1,zq2,zq3,zq4,zq5,zq6];refine tkp 8 (.int .i64 (k:Int)) hHeld ?_;simp only [Act.put,zq1,zq2,zq3,zq4,zq5,zq6];refine tkp 9 (.pointer (some ⟨ga,off+k * 34,none⟩)) hHeld ?_;simp only [Act.put,zq1,zq2,zq3,zq4,zq5,zq6];refine tkp 10 (.pointer (some ⟨ga,off+k * 34+32,none⟩)) hHeld ?_;simp only [Act.put,zq1,zq2,zq3,zq4,zq5,zq6];refine tkg 11 (.bool xg) rfl (Or.inl ⟨by rfl,fun w hS=>by (have q1:=encW_gone hS HKL.out;have q2:=HXE.out.2;go_simp)⟩) hHeld ?_;simp only [Act.put,zq1,zq2,zq3,zq4,zq5,zq6];refine tkp 12 (.slice (some ⟨ga,off,none⟩) n cap) hHeld ?_;simp only [Act.put,zq1,zq2,zq3,zq4,zq5,zq6];refine tkp 13 (.int .i64 (k:Int)) hHeld ?_;simp only [Act.put,zq1,zq2,zq3,zq4,zq5,zq6];refine tkp 14 (.pointer (some ⟨ga,off+k * 34,none⟩)) hHeld ?_;simp only [Act.put,zq1,zq2,zq3,zq4,zq5,zq6];refine tkp 15 (.pointer (some ⟨ga,off+k * 34+33,none⟩)) hHeld ?_;simp only [Act.put,zq1,zq2,zq3,zq4,zq5,zq6];refine tkg 16 (.slice xa xl xc) rfl (Or.inl ⟨by rfl,fun w hS=>by (have q1:=encW_val hS HKL.out;have q2:=HXE.out.1;go_simp)⟩) hHeld ?_;simp only [Act.put,zq1,zq2,zq3,zq4,zq5,zq6];refine wpAnyH_ready (rs:=[17]) (by kernel_rfl) (by simp) ?_;refine AllReadyH.cons rfl (fun KQ hK=>?_) AllReadyH.nil;go_simp;refine (HLT.out _ d0).mono ?_;rintro e x1 ⟨q,rfl,hq,hrow,a1⟩;have d1:=grow_trans d0 a1;refine hK.out _ _ (HS.out _ d1) (fun hHeld=>?_);clear hK KQ;refine tkg 18 (.agg (encW ⟨X.k,xg,X.b,.slice (some ⟨q,0,none⟩) xl (xl+5)⟩).toArray) rfl (Or.inl ⟨by rfl,fun w hS=>exec_bdw _ _ 37 _ (by rfl) _ (by rw [List.map_toArray];exact HBP.out q) w⟩) hHeld ?_;simp only [Act.put,zq1,zq2,zq3,zq4,zq5,zq6];refine tkp 19 (.pointer (some ⟨g,k * 34,none⟩)) hHeld ?_;simp only [Act.put,zq1,zq2,zq3,zq4,zq5,zq6];refine wpAnyH_ready (rs:=[20]) (by kernel_rfl) (by simp) ?_;refine AllReadyH.cons rfl (fun KQ hK=>?_) AllReadyH.nil;have hgx:Kb wr x1:=grow_trans (Below.refl _ _).drew a1;have hlp1:=hlp.out.grow hgx;have hWq:WtOk ⟨X.k,xg,X.b,.slice (some ⟨q,0,none⟩) xl (xl+5)⟩:=⟨HXO.out.hk,HXO.out.hb,_,_,by rw [HXE.out.2.2]⟩;have hlen9:=hWq.len;refine step_stL _ rfl _ _ _ rfl g (k * 34) (encW ⟨X.k,xg,X.b,.slice (some ⟨q,0,none⟩) xl (xl+5)⟩).toArray rfl rfl (by rw [List.size_toArray,hlen9];exact there_grow (hth.out k hlt) hgx) (by rw [List.size_toArray,hlen9];exact size_write) hWq.all ?_;have c4:Kb w (x1.setCells g (k * 34) (encW ⟨X.k,xg,X.b,.slice (some ⟨q,0,none⟩) xl (xl+5)⟩)):=setCells_below HG.out _ _ _ d1;have hqr:wr.heap.size≤q:=hq;have hqg:q≠g:=by
          have h1:=hgl.out;intro e;subst e;omega
        have hths:∀i,i<n→(x1.setCells g (k * 34) (encW ⟨X.k,xg,X.b,.slice (some ⟨q,0,none⟩) xl (xl+5)⟩)).there g (i * 34) 34:=fun i hi=>World.there_setCells (there_grow (hth.out i hi) hgx) _ _ _
        have hql:q<x1.heap.size:=hrow.lt;have eX:lwW ls (fun i=>if i=k then q else G i) k=⟨X.k,xg,X.b,.slice (some ⟨q,0,none⟩) xl (xl+5)⟩:=by simp [lwW,← HXK.out,HXE.out.2.1,HXE.out.2.2]
        have hlp2:LentWr (x1.setCells g (k * 34) (encW ⟨X.k,xg,X.b,.slice (some ⟨q,0,none⟩) xl (xl+5)⟩)) g (k+1) (fun i=>if i=k then q else G i) ls:=by
          refine ⟨fun i hi=>?_,fun i hi=>?_⟩
          · by_cases e:i=k
            · subst e
              rw [eX];exact World.rangeAt_setCells_same _ _ _ _ (by rw [hlen9];exact there_grow (hth.out i hlt) hgx)
            · have e2:lwW ls (fun j=>if j=k then q else G j) i=lwW ls G i:=by simp [lwW,e]
              rw [e2];refine World.rangeAt_setCells_apart (hlp1.pair i (by omega)) _ _ _ (.inr (.inl ?_));have hi2:i<ls.length:=by have:=HN.out;omega
              have hl2:(encW (lwW ls G i)).length=34:=by
                have ok:WtOk ls[i]!:=by rw [getElem!_pos ls i hi2];exact HWR.out.ok _ (List.getElem_mem hi2)
                exact (show WtOk (lwW ls G i) from ⟨ok.hk,ok.hb,_,_,rfl⟩).len
              rw [hl2];omega
          · by_cases e:i=k
            · subst e
              simp only [if_true];have hrow':Row x1 q (ls[i]!.b++marks ls[i]!.b.length):=by rw [← HXK.out,← HXE.out.2.2];exact hrow
              exact hrow'.of_block (setCells_other hqg _ _ _)
            · simp only [if_neg e]
              exact (hlp1.row i (by omega)).of_block (setCells_other (hne.out i (by omega)).1 _ _ _)
        have hne2:∀i,i<k+1→(fun i=>if i=k then q else G i) i≠g∧w.heap.size≤(fun i=>if i=k then q else G i) i∧(fun i=>if i=k then q else G i) i<(x1.setCells g (k * 34) (encW ⟨X.k,xg,X.b,.slice (some ⟨q,0,none⟩) xl (xl+5)⟩)).heap.size:=by
          intro i hi;rw [sz_setCells]
          by_cases e:i=k
          · simp only [if_pos e]
            exact ⟨hqg,by have:=hbw.size;omega,hql⟩
          · simp only [if_neg e]
            obtain ⟨h1,h2,h3⟩:=hne.out i (by omega);exact ⟨h1,h2,by have:=hgx.size;omega⟩
        have hap2:∀i j,i<k+1→j<k+1→i≠j→(fun i=>if i=k then q else G i) i≠(fun i=>if i=k then q else G i) j:=by
          intro i j hi hj hij
          by_cases e:i=k
          · have e2:j≠k:=fun h=>hij (by omega)
            simp only [if_pos e,if_neg e2];have:=(hne.out j (by omega)).2.2;omega
          · simp only [if_neg e]
            by_cases e2:j=k
            · simp only [if_pos e2]
              have:=(hne.out i (by omega)).2.2;omega
            · simp only [if_neg e2]
              exact hap.out i j (by omega) (by omega) hij
        have HLP2:=hidden hlp2;have HTH2:=hidden hths;have HNE2:=hidden hne2;have HAP2:=hidden hap2;clear hlp2 hths hne2 hlp1 hap2 eX hWq hlen9;generalize hxx:x1.setCells g (k * 34) (encW ⟨X.k,xg,X.b,.slice (some ⟨q,0,none⟩) xl (xl+5)⟩)=x2 at c4 HLP2 HTH2 HNE2 ⊢;clear hxx;refine hK.out _ _ (HS.out _ c4) (fun hHeld=>?_);clear hK KQ;refine wpAnyH_done (by kernel_rfl) ?_ _;have hg2:Hid (g<x2.heap.size):=by
          obtain ⟨h1,_⟩:=HTH2.out k hlt 0 (by omega);obtain ⟨u,hu⟩:=Option.isSome_iff_exists.1 h1;exact block_lt_of_cell hu
        go_wp2_with fail
        rw [hwi];clear hwi;exact ⟨⟨j,(fun i=>if i=k then q else G i),by have:=HJ.out;omega,rfl,by rw [HJ.out];exact HLP2,HTH2,hg2,by rw [HJ.out];exact HNE2,by rw [HJ.out];exact HAP2,c4⟩,by have:=HJ.out;simp [intOf];omega⟩
    · have hkn:k=n:=by omega
      subst hkn;have z1: ¬(k:Int)<(k:Int):=by omega
      go_wp2
      go_ret;exact HPost.out _ _ _ HG.out (fun i hi=>(hne.out i hi).2.1) hap.out hlp.out hbw

end Go.Proofs.YtabiglnmfdpcfaaGreatDoor

namespace Go.Proofs.YtabiglnmfdpcfaaGreatDoor
variable {base c g k n:Nat}
variable {v:Value}
variable {w w':World}
variable {zs:Lq}
set_option maxHeartbeats 8000000
set_option maxRecDepth 20000
open Go.RowKit

set_option maxRecDepth 100000 in
theorem keptW_true (aA aB:Option Addr) (n ca cb:Nat) (X Y:Nat→Wt) (w:World) (hn:n≤65536)
    (hA:0<n→∃g off,aA=some ⟨g,off,none⟩∧∀i,i<n→w.rangeAt g (off+i * 34) (encW (X i))) (hB:0<n→∃g off,aB=some ⟨g,off,none⟩∧∀i,i<n→w.rangeAt g (off+i * 34) (encW (Y i)))
    (hok:∀i,i<n→WtOk (X i)∧WtOk (Y i)∧(X i).k=(Y i).k∧(X i).g=(Y i).g)
    (hc:∀i,i<n→Kr w 47 #[(X i).v,(Y i).v] (.bool true)):
    Kc 14 #[.slice aA n ca,.slice aB n cb] w fun e w'=>e=.returned (.bool true)∧Kb w w':=by
  have HA:=hidden hA;have HB:=hidden hB;have HOK:=hidden hok;have HCC:=hidden hc;have HN:=hidden hn;clear hA hB hok hc hn;go_enter Tryz.func14,Tryz.ntmps14
  go_wp2_with fail
  go_loopw [5] (fun iv wr=>∃i:Nat,iv=.int .i64 (i:Int)∧i≤n∧Hid (Kb w wr)) (fun iv _=>n-(intOf iv).toNat)
  case atStart=>exact ⟨0,rfl,by omega,Below.refl _ _⟩
  case round=>
    obtain ⟨i,rfl,hin,hb⟩:=hrel
    by_cases hlt:i<n
    · as_aux_lemma=>
        have z1:(i:Int)<(n:Int):=by omega
        have z0:(0:Int)≤(i:Int):=by omega
        obtain ⟨ga,oa,rfl,hra⟩:=HA.out (by omega);obtain ⟨gb,ob,rfl,hrb⟩:=HB.out (by omega);obtain ⟨okx,oky,ek,eg⟩:=HOK.out i hlt;obtain ⟨xa,xc,hxv⟩:=okx.hv;obtain ⟨ya,yc,hyv⟩:=oky.hv;obtain ⟨K,hK⟩:∃K,K=(X i).k:=⟨_,rfl⟩;obtain ⟨xg,hxg⟩:∃xg,xg=(X i).g:=⟨_,rfl⟩;obtain ⟨bx,hbx⟩:∃bx,bx=(X i).b:=⟨_,rfl⟩;obtain ⟨by_,hby⟩:∃by_,by_=(Y i).b:=⟨_,rfl⟩;obtain ⟨xl,hxl⟩:∃xl,xl=(X i).b.length:=⟨_,rfl⟩;obtain ⟨yl,hyl⟩:∃yl,yl=(Y i).b.length:=⟨_,rfl⟩;rw [← hxl] at hxv;rw [← hyl] at hyv;have eX:X i=⟨K,xg,bx,.slice xa xl xc⟩:=by rw [hK,hxg,hbx,← hxv]
        have eY:Y i=⟨K,xg,by_,.slice ya yl yc⟩:=by rw [hK,hxg,hby,ek,eg,← hyv]
        have HS:Hid (∀w',Kb w w'→w'.rangeAt ga (oa+i * 34) (encW ⟨K,xg,bx,.slice xa xl xc⟩)∧w'.rangeAt gb (ob+i * 34) (encW ⟨K,xg,by_,.slice ya yl yc⟩)):=fun w' hb=>by rw [← eX,← eY];exact ⟨rngW_grow (hra i hlt) hb,rngW_grow (hrb i hlt) hb⟩
        have HKL:Hid (K.length=32):=by rw [hK];exact okx.hk.1
        have HLK:Hid ((Tryz.prog.info? 34).map (·.size)=some (B K).toList.length):=by show _=_;rw [B_toList,List.length_map,HKL.out];exact sz_path0
        have HC:Hid (Kr w 47 #[.slice xa xl xc,.slice ya yl yc] (.bool true)):=fun w' hb=>by have:=HCC.out i hlt w' hb;rw [hxv,hyv] at this;exact this
        have EQ:∀w,(Op.equalIn 10000 34 (.agg (B K)) (.agg (B K))).run Tryz.prog w=.ok true w:=fun w=>by have:=path_eq K K HKL.out HKL.out w;simpa using this
        obtain ⟨j,hj⟩:∃j,j=i+1:=⟨_,rfl⟩;have HJ:=hidden hj;have hwi:=w64_succ (k:=i) (by have:=HN.out;omega) hj;have d0:Kb w wr.drew:=grow_trans hb.out (Below.refl _ _).drew;clear hra hrb okx oky ek eg hxv hyv hK hxg hbx hby hxl hyl eX eY hj HA HB HOK HCC
        go_wp2_with fail
        refine wp_region_held_drew (S:=fun w'=>w'.rangeAt ga (oa+i * 34) (encW ⟨K,xg,bx,.slice xa xl xc⟩)∧w'.rangeAt gb (ob+i * 34) (encW ⟨K,xg,by_,.slice ya yl yc⟩)) (by kernel_rfl) (HS.out _ d0) (fun hHeld=>?_);refine tkp 0 (.slice (some ⟨ga,oa,none⟩) n ca) hHeld ?_;simp only [Act.put,zq1,zq2,zq4,zq5,zq6];refine tkp 1 (.int .i64 (i:Int)) hHeld ?_;simp only [Act.put,zq1,zq2,zq3,zq4,zq5,zq6];refine tkp 2 (.pointer (some ⟨ga,oa+i * 34,none⟩)) hHeld ?_;simp only [Act.put,zq1,zq2,zq3,zq4,zq5,zq6];refine tkp 3 (.pointer (some ⟨ga,oa+i * 34,none⟩)) hHeld ?_;simp only [Act.put,zq1,zq2,zq3,zq4,zq5,zq6];refine tkg 4 (.agg (B K)) rfl (yieldsIf_load_mid rfl 34 (.tmp 20) rfl ga (oa+i * 34) rfl (B K).toList _ (fun w hS=>encW_key hS.1) Tryz.underlying34 rfl HLK.out) hHeld ?_;simp only [Act.put,zq1,zq2,zq3,zq4,zq5,zq6];refine tkp 5 (.slice (some ⟨gb,ob,none⟩) n cb) hHeld ?_;simp only [Act.put,zq1,zq2,zq3,zq4,zq5,zq6];refine tkp 6 (.int .i64 (i:Int)) hHeld ?_;simp only [Act.put,zq1,zq2,zq3,zq4,zq5,zq6];refine tkp 7 (.pointer (some ⟨gb,ob+i * 34,none⟩)) hHeld ?_;simp only [Act.put,zq1,zq2,zq3,zq4,zq5,zq6];refine tkp 8 (.pointer (some ⟨gb,ob+i * 34,none⟩)) hHeld ?_;simp only [Act.put,zq1,zq2,zq3,zq4,zq5,zq6];refine tkg 9 (.agg (B K)) rfl (yieldsIf_load_mid rfl 34 (.tmp 25) rfl gb (ob+i * 34) rfl (B K).toList _ (fun w hS=>encW_key hS.2) Tryz.underlying34 rfl HLK.out) hHeld ?_;simp only [Act.put,zq1,zq2,zq3,zq4,zq5,zq6];refine tkp 10 (.bool false) hHeld ?_;simp only [Act.put,zq1,zq2,zq3,zq4,zq5,zq6];refine tkp 11 (.bool false) hHeld ?_;simp only [Act.put,zq1,zq2,zq3,zq4,zq5,zq6];refine tkp 12 (.slice (some ⟨ga,oa,none⟩) n ca) hHeld ?_;simp only [Act.put,zq1,zq2,zq3,zq4,zq5,zq6];refine tkp 13 (.int .i64 (i:Int)) hHeld ?_;simp only [Act.put,zq1,zq2,zq3,zq4,zq5,zq6];refine tkp 14 (.pointer (some ⟨ga,oa+i * 34,none⟩)) hHeld ?_;simp only [Act.put,zq1,zq2,zq3,zq4,zq5,zq6];refine tkp 15 (.pointer (some ⟨ga,oa+i * 34+32,none⟩)) hHeld ?_;simp only [Act.put,zq1,zq2,zq3,zq4,zq5,zq6];refine tkg 16 (.bool xg) rfl (Or.inl ⟨by rfl,fun w hS=>by (have q1:=encW_gone hS.1 HKL.out;go_simp)⟩) hHeld ?_;simp only [Act.put,zq1,zq2,zq3,zq4,zq5,zq6];refine tkp 17 (.slice (some ⟨gb,ob,none⟩) n cb) hHeld ?_;simp only [Act.put,zq1,zq2,zq3,zq4,zq5,zq6];refine tkp 18 (.int .i64 (i:Int)) hHeld ?_;simp only [Act.put,zq1,zq2,zq3,zq4,zq5,zq6];refine tkp 19 (.pointer (some ⟨gb,ob+i * 34,none⟩)) hHeld ?_;simp only [Act.put,zq1,zq2,zq3,zq4,zq5,zq6];refine tkp 20 (.pointer (some ⟨gb,ob+i * 34+32,none⟩)) hHeld ?_;simp only [Act.put,zq1,zq2,zq3,zq4,zq5,zq6];refine tkg 21 (.bool xg) rfl (Or.inl ⟨by rfl,fun w hS=>by (have q1:=encW_gone hS.2 HKL.out;go_simp)⟩) hHeld ?_;simp only [Act.put,zq1,zq2,zq3,zq4,zq5,zq6];refine tkp 22 (.bool false) hHeld ?_;simp only [Act.put,zq1,zq2,zq3,zq4,zq5,zq6];refine tkp 23 (.bool false) hHeld ?_;simp only [Act.put,zq1,zq2,zq3,zq4,zq5,zq6];refine tkp 24 (.bool false) hHeld ?_;simp only [Act.put,zq1,zq2,zq3,zq4,zq5,zq6];refine tkp 25 (.slice (some ⟨ga,oa,none⟩) n ca) hHeld ?_;simp only [Act.put,zq1,zq2,zq3,zq4,zq5,zq6];refine tkp 26 (.int .i64 (i:Int)) hHeld ?_;simp only [Act.put,zq1,zq2,zq3,zq4,zq5,zq6];refine tkp 27 (.pointer (some ⟨ga,oa+i * 34,none⟩)) hHeld ?_;simp only [Act.put,zq1,zq2,zq3,zq4,zq5,zq6];refine tkp 28 (.pointer (some ⟨ga,oa+i * 34+33,none⟩)) hHeld ?_;simp only [Act.put,zq1,zq2,zq3,zq4,zq5,zq6];refine tkg 29 (.slice xa xl xc) rfl (Or.inl ⟨by rfl,fun w hS=>by (have q1:=encW_val hS.1 HKL.out;go_simp)⟩) hHeld ?_;simp only [Act.put,zq1,zq2,zq3,zq4,zq5,zq6];refine tkp 30 (.slice (some ⟨gb,ob,none⟩) n cb) hHeld ?_;simp only [Act.put,zq1,zq2,zq3,zq4,zq5,zq6];refine tkp 31 (.int .i64 (i:Int)) hHeld ?_;simp only [Act.put,zq1,zq2,zq3,zq4,zq5,zq6];refine tkp 32 (.pointer (some ⟨gb,ob+i * 34,none⟩)) hHeld ?_;simp only [Act.put,zq1,zq2,zq3,zq4,zq5,zq6];refine tkp 33 (.pointer (some ⟨gb,ob+i * 34+33,none⟩)) hHeld ?_;simp only [Act.put,zq1,zq2,zq3,zq4,zq5,zq6];refine tkg 34 (.slice ya yl yc) rfl (Or.inl ⟨by rfl,fun w hS=>by (have q1:=encW_val hS.2 HKL.out;go_simp)⟩) hHeld ?_;simp only [Act.put,zq1,zq2,zq3,zq4,zq5,zq6];refine wpAnyH_ready (rs:=[35]) (by kernel_rfl) (by simp) ?_;refine AllReadyH.cons rfl (fun KQ hK=>?_) AllReadyH.nil;go_simp;refine (HC.out _ d0).mono ?_;rintro e wx ⟨rfl,bx1⟩;have d1:=grow_trans d0 bx1;refine hK.out _ _ (HS.out _ d1) (fun hHeld=>?_);clear hK KQ;refine tkp 36 (.bool false) hHeld ?_;simp only [Act.put,zq1,zq2,zq3,zq4,zq5,zq6];refine tkp 37 (.bool false) hHeld ?_;simp only [Act.put,zq1,zq2,zq3,zq4,zq5,zq6];refine wpAnyH_done (by kernel_rfl) ?_ _;have HD:=hidden d1;clear d0 d1 bx1 EQ
        go_wp2_with fail
        rw [hwi];clear hwi;exact ⟨⟨j,rfl,by have:=HJ.out;omega,HD⟩,by have:=HJ.out;simp [intOf];omega⟩
    · have z1: ¬(i:Int)<(n:Int):=by omega
      go_wp2
      go_ret;exact ⟨rfl,hb.out⟩

end Go.Proofs.YtabiglnmfdpcfaaGreatDoor

namespace Go.Proofs.YtabiglnmfdpcfaaGreatDoor
variable {base c g k n:Nat}
variable {v:Value}
variable {w w':World}
variable {zs:Lq}
set_option maxHeartbeats 8000000
set_option maxRecDepth 20000
open Go.RowKit

theorem wr_side {a:Option Addr} {rs:List Wt} (h:WrAt w (.slice a n c) rs):0<n→∃g off,a=some ⟨g,off,none⟩∧∀i,i<n→w.rangeAt g (off+i * 34) (encW rs[i]!):=fun hn=>by
  obtain ⟨a',cap,e,h1,h2,h3,h4,h6⟩:=h;injection e with e1 e2 e3;subst e1;obtain ⟨g,off,ea,hr⟩:=h3 (by omega);exact ⟨g,off,ea,fun i hi=>hr i (by omega)⟩
theorem kept_lent {gq lc:Nat} {la:Option Addr} {Gq:Nat→Nat} {ls:List Wt} (h:LentWr w gq ls.length Gq ls) (hl:WrAt w (.slice la ls.length lc) ls) (hn:ls.length≤80) (hll:∀x∈ls,x.b.length≤140737488355328-4096):
    Kc 14 #[.slice (some ⟨gq,0,none⟩) ls.length (ls.length+2),.slice la ls.length lc] w fun e w'=>e=.returned (.bool true)∧Kb w w':=by
  refine keptW_true (some ⟨gq,0,none⟩) la ls.length (ls.length+2) lc (lwW ls Gq) (fun i=>ls[i]!) w (by omega) (fun _=>⟨gq,0,rfl,fun i hi=>by rw [Nat.zero_add];exact h.pair i hi⟩) (wr_side hl) (fun i hi=>?_) (fun i hi w' hb'=>?_)
  · have ok:WtOk ls[i]!:=by rw [getElem!_pos ls i hi];exact hl.ok _ (List.getElem_mem hi)
    exact ⟨⟨ok.hk,ok.hb,_,_,rfl⟩,ok,rfl,rfl⟩
  · have r2:Reads w' ls[i]!.v ls[i]!.b:=by rw [getElem!_pos ls i hi];exact (hl.reads _ (List.getElem_mem hi)).grow hb'
    have hb2:=hll ls[i]! (by rw [getElem!_pos ls i hi];exact List.getElem_mem hi);exact kept_true (Gq i) ls[i]!.v ls[i]!.b w' ((h.row i hi).of_block (hb'.block _ (h.row i hi).lt)) r2 (by omega)
theorem prAt_its {rs:List Wt} (h:w.ownsRow base 62 33 v (itsOf rs).length (flatP (itsOf rs))) (hr:∀x∈rs,WtOk x∧Reads w x.v x.b):PrAt w v (fun i=>((itsOf rs).getD i (e00,undef)).2) ((itsOf rs).map (·.1)):=
  prAt_own h (fun p hp=>by obtain ⟨x,hx,rfl⟩:=itsOf_mem hp;exact (hr x hx).1.hk) (fun p hp=>by obtain ⟨x,hx,rfl⟩:=itsOf_mem hp;exact (hr x hx).2)

end Go.Proofs.YtabiglnmfdpcfaaGreatDoor

/- A captured list of numbers; plan.shared, batch.holdAll and batch.countable, as contracts. -/
import Derived.Test.YtdjpigfibafokaaGreatDoorDz01
import Derived.Test.YtdjpigfibafokaaGreatDoorDz33
import Derived.Test.YtdjpigfibafokaaGreatDoorDz30
import Derived.Test.YtdjpigfibafokaaGreatDoorDz21
import Derived.Test.YtdjpigfibafokaaGreatDoorDz11
import Derived.Test.YtdjpigfibafokaaGreatDoorDz23
namespace Go.Proofs.YtdjpigfibafokaaGreatDoor
variable {S fr fr1 l:List Nat}
variable {b base bp g gs i j k m n o room:Nat}
variable {cs cs1:Lz}
variable {lv sv v v':Value}
variable {w w' w0 w1 w4 wa wr:World}
set_option maxHeartbeats 8000000
set_option maxRecDepth 20000
open Go.RowKit

structure IL (m:Nat) (w:World) (b:Nat) (v:Value) (l:List Nat):Prop where
  blk:Blk w b 45 #[v]
  lst:w.ownsRow m 3 1 v l.length (nats l)
  lb:m≤b

theorem IL.grow (h:IL m w b v l) (hb:Kb w w'):IL m w' b v l:=⟨h.blk.grow hb,owR_grow h.lst hb,h.lb⟩
theorem IL.cell (h:IL m w b v l):w.cell? ⟨b,0,none⟩=some v:=by
  rw [h.blk.cell];rfl
theorem IL.ne (h:IL m w b v l) {g:Nat} {t:TypeId} {cs:Array Value} (hB:Blk w g t cs) (h1:45≠t) (h2:3≠t):g ∉ b::v.ownBlock.toList:=fun q=>by
  rcases List.mem_cons.1 q with q | q
  · exact h.blk.ne hB h1 q.symm
  · exact lst_blk_ne (owR_lst h.lst) hB h2 (by simpa using q)
theorem IL.mod (h:IL m w b v l) (md:Mod S w w') (h1:b ∉ S) (h2:∀g,v.ownBlock=some g→g ∉ S):IL m w' b v l:=⟨h.blk.mod md h1,owR_mod h.lst md h2,h.lb⟩
theorem IL.snoc (h:IL m w b v l) (hb:Kb w w1) (hg:w1.grownBy w4 v.ownBlock) (x:Nat) (ho:w4.ownsRow m 3 1 v' (l.length+1) (nats l++[Value.int .i64 (x:Int)])):IL m (w4.setCell ⟨b,0,none⟩ v') b v' (l++[x])∧Mod (b::v.ownBlock.toList) w (w4.setCell ⟨b,0,none⟩ v')∧w4.cell? ⟨b,0,none⟩=some v∧w4.frozen? ⟨b,0,none⟩=false:=by
  have h1:=h.grow hb;have md:Mod v.ownBlock.toList w1 w4:=Mod.of_grown hg (fun k hk=>by simp [hk]);have hn:b ∉ v.ownBlock.toList:=fun q=>lst_blk_ne (owR_lst h1.lst) h1.blk (by decide) (by simpa using q)
  have B4:Blk w4 b 45 #[v]:=h1.blk.mod md hn;have m5:Mod [b] w4 (w4.setCell ⟨b,0,none⟩ v'):=Mod.setCell _ _ _ _ (by simp);have ln:=lst_blk_ne (owR_lst ho) B4 (by decide);refine ⟨⟨?_,?_,h.lb⟩,((Mod.of_below hb _).trans' (md.mono fun k hk=>List.mem_cons_of_mem _ hk)).trans' (m5.mono fun k hk=>by simp at hk;subst hk;exact List.mem_cons_self ..),by rw [B4.cell];rfl,B4.frozen 0⟩
  · have:=B4.set 0 v'
    simpa using this
  · rw [List.length_append,List.length_singleton,nats,List.map_append]
    exact owR_mod ho m5 (fun g hg e=>ln (by have e':g=b:=(by simpa using e);rw [← e'];exact hg))

def IlPost (m:Nat) (w:World) (b:Nat) (v:Value) (l:List Nat) (e:Ending) (w':World):Prop:=e=.returned (.tuple #[])∧∃v',IL m w' b v' l∧Mod (b::v.ownBlock.toList) w w'

theorem keep11_any (h:IL m w b v l) (hm:m≤w.heap.size) (p:Int) (hl:l.length≤1000000):Kc 252 #[.int .i64 p,.pointer (some ⟨b,0,none⟩)] w (IlPost m w b v (l++posP p)):=by
  by_cases hp:0<p
  · have e:posP p=[p.toNat]:=by unfold posP;rw [if_pos hp]
    have ep:(p.toNat:Int)=p:=by omega
    have c0:=h.cell;have HPost:Hid (∀w' v',IL m w' b v' (l++[p.toNat])→Mod (b::v.ownBlock.toList) w w'→IlPost m w b v (l++posP p) (.returned (.tuple #[])) w'):=fun w' v' q1 q2=>⟨rfl,v',by rw [e];exact q1,q2⟩
    have HO:=hidden (owR_grow h.lst (grow_alloc w (.cells #[.int .i64 p] 3)));have HS:Hid (∀v4 w4,w4.ownsRow m 3 1 v4 (l.length+1) (nats l++[Value.int .i64 p])→(w.alloc (.cells #[.int .i64 p] 3)).grownBy w4 v.ownBlock→IL m (w4.setCell ⟨b,0,none⟩ v4) b v4 (l++[p.toNat])∧Mod (b::v.ownBlock.toList) w (w4.setCell ⟨b,0,none⟩ v4)∧w4.cell? ⟨b,0,none⟩=some v∧w4.frozen? ⟨b,0,none⟩=false):=fun v4 w4 o4 g4=>by
      rw [← ep] at o4;exact h.snoc (grow_alloc w _) g4 p.toNat o4
    have HL:=hidden hl;have HM:=hidden hm;generalize IlPost m w b v (l++posP p)=PP at HPost ⊢;generalize l.length=q at *;clear h hl hm e ep;go_enter Tryz.func252,Tryz.ntmps252
    go_wp2_with (first
      |(at_builtin;refine wpList_appB _ rfl _ _ _ rfl m 3 1 8 Tryz.underlying45 info_nat (by omega) _ q (nats l) rfl HO.out w.heap.size [Value.int .i64 p] rfl (Blk.new _ _ _) rfl (by intro u hu;simp at hu;subst hu;rfl) (by have:=HL.out;simp only [maxLen];omega) (by have:=HL.out;omega) (Nat.le_trans HM.out (by simp)) ?_;intro a4 c4 w4 o4 g4;obtain ⟨s1,s2,f1,f2⟩:=HS.out _ _ o4 g4;have HS1:=hidden s1;have HS2:=hidden s2;clear o4 g4 s1 s2))
    first
      | exact HPost.out _ _ HS1.out HS2.out
      |(refine bodyPost_ret (results_none rfl _ _ _) rfl ?_;exact HPost.out _ _ HS1.out HS2.out)
  · have e:posP p=[]:=posP_neg (by omega)
    have HPost:Hid (IlPost m w b v (l++posP p) (.returned (.tuple #[])) w):=⟨rfl,v,by rw [e,List.append_nil];exact h,Mod.refl _ _⟩;generalize IlPost m w b v (l++posP p)=PP at HPost ⊢;clear h hl e;go_enter Tryz.func252,Tryz.ntmps252
    go_wp2_with fail
    first
      | exact HPost.out
      |(refine bodyPost_ret (results_none rfl _ _ _) rfl ?_;exact HPost.out)

theorem zero_pl:∀w,(zeroValue 333).run Tryz.prog w=.ok (.agg (zPl 0 (encW wtZ) 0 0 0).toArray) w:=zero_of_info (n:=38) (by kernel_rfl) |>.1

theorem encPl_at {n:Pn} (hn:WtOk n.w) (h:w.rangeAt g o (encPl n)):w.cell? ⟨g,o,none⟩=some (.int .u8 (if n.inn then 2 else 1))∧w.rangeAt g (o+1) (encW n.w)∧w.cell? ⟨g,o+35,none⟩=some (.int .i64 (n.dp:Int))∧w.cell? ⟨g,o+36,none⟩=some (.int .i64 n.l)∧w.cell? ⟨g,o+37,none⟩=some (.int .i64 n.r):=by
  have hl:=hn.len;refine ⟨h 0 _ rfl,fun j u hu=>?_,?_,?_,?_⟩
  · have hj:=(List.getElem?_eq_some_iff.1 hu).1
    rw [show o+1+j=o+(j+1) by omega];refine h (j+1) u ?_;unfold encPl;rw [List.getElem?_cons_succ,List.getElem?_append_left hj];exact hu
  · refine h 35 _ ?_
    unfold encPl;rw [List.getElem?_cons_succ,List.getElem?_append_right (by omega),hl];rfl
  · refine h 36 _ ?_
    unfold encPl;rw [List.getElem?_cons_succ,List.getElem?_append_right (by omega),hl];rfl
  · refine h 37 _ ?_
    unfold encPl;rw [List.getElem?_cons_succ,List.getElem?_append_right (by omega),hl];rfl

structure PlR (w:World) (bp:Nat) (sv:Value) (ps:List Pn) (lv:Value):Prop where
  blk:Blk w bp 279 #[sv,lv]
  lst:Lst w 333 38 lv ps.length (flatE encPl ps)
  ok:∀n∈ps,WtOk n.w
theorem PlM.pr {ps:List Pn} (h:PlM wa w bp sv ps lv):PlR w bp sv ps lv:=⟨h.blk,owR_lst h.lst,h.ok⟩
theorem PlR.mod {ps:List Pn} (h:PlR w bp sv ps lv) (m:Mod S w w') (h1:bp ∉ S) (h2:∀g,lv.ownBlock=some g→g ∉ S):PlR w' bp sv ps lv:=⟨h.blk.mod m h1,lst_mod h.lst m h2,h.ok⟩
theorem PlR.grow {ps:List Pn} (h:PlR w bp sv ps lv) (hb:Kb w w'):PlR w' bp sv ps lv:=h.mod (Mod.of_below hb []) (fun q=>by cases q) (fun _ _ q=>by cases q)
theorem PlR.cells {ps:List Pn} (h:PlR w bp sv ps lv):w.cell? ⟨bp,0,none⟩=some sv∧w.cell? ⟨bp,1,none⟩=some lv:=by
  rw [h.blk.cell,h.blk.cell];exact ⟨rfl,rfl⟩
theorem PlR.at {ps:List Pn} (h:PlR w bp sv ps lv) {i:Nat} (hi:i<ps.length):∃g c,lv=.slice (some ⟨g,0,none⟩) ps.length c∧w.rangeAt g (i * 38) (encPl ps[i]):=by
  obtain ⟨g,c,rfl,_⟩:=lst_pos h.lst (by omega);exact ⟨g,c,rfl,(lstE_range h.lst rfl (fun x hx=>encPl_len (h.ok x hx)) i hi).1⟩

theorem shN_take (ps:List Pn) {k:Nat} (h:k<ps.length):(ps.take (k+1)).flatMap shPn=(ps.take k).flatMap shPn++posP ps[k].l++posP ps[k].r:=by
  rw [List.take_add_one,List.getElem?_eq_getElem h,List.flatMap_append];simp [shPn]
theorem shN_len:∀(ps:List Pn),(ps.flatMap shPn).length≤2 * ps.length
  | []=>by simp
  | n::r=>by
    have:=shN_len r;have p1:∀q,(posP q).length≤1:=fun q=>by unfold posP;split <;> simp
    have:=p1 n.l;have:=p1 n.r;rw [List.flatMap_cons,List.length_append,List.length_cons];simp only [shPn,List.length_append];omega

def BshPost (w:World) (l:List Nat) (e:Ending) (w':World):Prop:=∃a c,e=.returned (.slice a l.length c)∧w'.ownsRow w.heap.size 3 1 (.slice a l.length c) l.length (nats l)∧Kb w w'

theorem shared11_any {ps:List Pn} (P:PlR w bp sv ps lv) (top:Int) (h6:ps.length≤65536):Kc 198 #[.pointer (some ⟨bp,0,none⟩),.int .i64 top] w (BshPost w (shL ps top)):=by
  have HPost:Hid (∀w' v b,IL w.heap.size w' b v (shL ps top)→Kb w w'→BshPost w (shL ps top) (.returned v) w'):=fun w' v b h1 h2=>by
    obtain ⟨a,c,rfl⟩:=lst_slice (owR_lst h1.lst);exact ⟨a,c,rfl,h1.lst,h2⟩
  obtain ⟨la,lc,rfl⟩:=lst_slice P.lst;obtain ⟨nn,hnn⟩:∃q,q=ps.length:=⟨_,rfl⟩;have c1:=P.cells.2;have HAt:Hid (∀w' k,Kb w w'→k<nn→∃(gl:Nat) (n:Pn),la=some ⟨gl,0,none⟩∧WtOk n.w∧w'.rangeAt gl (k * 38) (encPl n)∧(ps.take (k+1)).flatMap shPn=(ps.take k).flatMap shPn++posP n.l++posP n.r):=fun w' k hb hk=>by
    rw [hnn] at hk;obtain ⟨gl,c,e,hr⟩:=(P.grow hb).at hk;injection e with e1 _ _;exact ⟨gl,ps[k],e1,P.ok _ (List.getElem_mem hk),hr,shN_take ps hk⟩
  have HLen:Hid (∀k,((ps.take k).flatMap shPn).length≤200000):=fun k=>by
    have h1:=shN_len (ps.take k);rw [List.length_take] at h1;omega
  have HKC:Hid (∀w' b v l p,IL w.heap.size w' b v l→w.heap.size≤w'.heap.size→l.length≤1000000→Kc 252 #[.int .i64 p,.pointer (some ⟨b,0,none⟩)] w' (IlPost w.heap.size w' b v (l++posP p))):=fun w' b v l p hi hm hl=>keep11_any hi hm p hl
  have HEnd:Hid ((ps.take nn).flatMap shPn++posP top=shL ps top):=by rw [hnn,List.take_length];rfl
  have HN:Hid (nn≤65536):=by rw [hnn];exact h6
  have HSZ:Hid (∀n:Pn,WtOk n.w→(Tryz.prog.info? 333).map (·.size)=some (encPl n).length):=fun n hn=>by rw [encPl_len hn];exact size_pl
  have HZ:Hid (∀n:Pn,WtOk n.w→(zPl 0 (encW wtZ) 0 0 0).toArray.size=(encPl n).toArray.size):=fun n hn=>by rw [List.size_toArray,List.size_toArray,zPl_len _ _ _ _ _ wtZ_ok.len,encPl_len hn]
  generalize BshPost w (shL ps top)=PP at HPost ⊢;rw [← hnn] at c1;have c1a:=below_cell (grow_alloc w (.cells #[.slice none 0 0] 45)) c1;clear P h6 hnn c1;go_enter Tryz.func198,Tryz.ntmps198
  go_wp2_with fail
  have HI0:Hid (IL w.heap.size (w.alloc (.cells #[.slice none 0 0] 45)) w.heap.size (.slice none 0 0) []):=⟨Blk.new w _ _,World.ownsRow_nil _ _ _ _,Nat.le_refl _⟩;have HB0:Hid (Kb w (w.alloc (.cells #[.slice none 0 0] 45))):=grow_alloc w _;have HIn:Hid (∃v,IL w.heap.size (w.alloc (.cells #[.slice none 0 0] 45)) w.heap.size v ((ps.take 0).flatMap shPn)):=⟨_,HI0.out⟩;generalize hw1:w.alloc (.cells #[.slice none 0 0] 45)=w1 at *;clear hw1 HI0
  go_loopw [15] (fun iv wr=>∃(k:Nat),k≤nn∧iv=.int .i64 (k:Int)∧Hid (∃v,IL w.heap.size wr w.heap.size v ((ps.take k).flatMap shPn))∧Hid (Kb w wr)) (fun iv _=>nn-(intOf iv).toNat)
  case atStart=>exact ⟨0,by omega,rfl,HIn.out,HB0.out⟩
  case round=>
    clear HIn HB0;obtain ⟨k,hk,rfl,HI,HB⟩:=hrel
    by_cases hlt:k<nn
    · obtain ⟨v5,hi5⟩:=HI.out
      have HI5:=hidden hi5;obtain ⟨gl,n,rfl,hok,hr,htk⟩:=HAt.out wr k HB.out hlt;have HR:=hidden hr;have HOK:=hidden hok;have HTK:=hidden htk;have HLN:=hidden (HLen.out k);have HSZn:=hidden (HSZ.out n hok);have HZn:=hidden (HZ.out n hok);have k0:(0:Int)≤(k:Int):=by omega
      have k1:(k:Int)<(nn:Int):=by omega
      have hk6:k<65536:=by have:=HN.out;omega
      have hwk:wrap64 ((k:Int)+1)=((k+1:Nat):Int):=by rw [Go.IntWalk.wrap64_in _ (by omega)];rfl
      have H36:Hid (∀(w':World) (b:Nat),Blk w' b 333 (encPl n).toArray→w'.cell? ⟨b,36,none⟩=some (.int .i64 n.l)∧w'.cell? ⟨b,37,none⟩=some (.int .i64 n.r)):=fun w' b hb=>by
        obtain ⟨_,_,_,q1,q2⟩:=encPl_at (g:=b) (o:=0) HOK.out (by have:=hb.range;simpa using this);exact ⟨by simpa using q1,by simpa using q2⟩
      have H1C:Hid ((encPl n).toArray.all (·.oneCell')=true):=all_oneCell_toArray (encPl_one hok);have HSA:Hid ((Tryz.prog.info? 333).map (·.size)=some (encPl n).toArray.size):=by rw [List.size_toArray];exact HSZn.out
      generalize hx:encPl n=X at HR HSZn HZn H36 H1C HSA;generalize n.l=nl at HTK H36;generalize n.r=nr at HTK H36;generalize (ps.take k).flatMap shPn=acc at HI5 HTK HLN;clear hi5 hok hr htk hx HSZ HZ HOK hk HI
      go_wp2_with (first
        |((with_reducible refine at_ldd 18 17 ?_);refine wpList_ldw _ rfl _ _ rfl gl (k * 38) rfl X _ HR.out Tryz.underlying333 rfl HSZn.out ?_)
        |((with_reducible refine at_ald 8 ?_);refine wpList_al _ rfl _ rfl _ zero_pl ?_;intro w2 b8 hg8 hl8 B8 q8;have HG8:=hidden hg8;have HQ8:=hidden q8;clear hg8 hl8)
        |((with_reducible refine at_st 8 ?_);refine wpList_sto _ rfl _ _ _ rfl b8 _ X.toArray rfl rfl B8 HSA.out HZn.out H1C.out ?_;intro w3 B83 r3;have HB83:=hidden B83;have HQ3:=hidden (below_row HQ8.out r3 HG8.out);obtain ⟨c36,c37⟩:=H36.out _ _ B83;have HI3:=hidden (HI5.out.grow HQ3.out);clear B8 q8 B83 r3 HI5 HR)
        |(go_at_call 252;have mk:=mk1;clear mk;refine (HKC.out _ _ _ _ _ HI4.out (grow_trans HB.out HQ3.out |>.size |> fun q=>Nat.le_trans q HM4.out.size) (by have:=HLN.out;rw [List.length_append];have:(posP nl).length≤1:=(by unfold posP;split <;> simp);omega)).mono ?_;rintro e w5 ⟨rfl,v6,i6,m6⟩;have HI6:=hidden i6;have HM6:=hidden (HI4.out.ne HB84.out (by decide) (by decide));have HMM:=hidden m6;clear i6 m6)
        |(go_at_call 252;refine (HKC.out _ _ _ _ _ HI3.out (grow_trans HB.out HQ3.out).size (by have:=HLN.out;omega)).mono ?_;rintro e w4 ⟨rfl,v4,i4,m4⟩;have mk1:Hid True:=trivial;have HI4:=hidden i4;have HM4:=hidden m4;have HB84:=hidden (HB83.out.mod m4 (HI3.out.ne HB83.out (by decide) (by decide)));obtain ⟨d36,d37⟩:=H36.out _ _ HB84.out;clear i4 m4 c36 c37))
      have hfin:Kb w w5:=by
        have h1:=grow_trans HB.out HQ3.out;have o3:∀q∈w.heap.size::v5.ownBlock.toList,w.heap.size≤q:=fun q hq=>by
          rcases List.mem_cons.1 hq with e | e
          · rw [e];exact HI3.out.lb
          · exact (HI3.out.lst.lt q (by simpa using e)).1
        have o4:∀q∈w.heap.size::v4.ownBlock.toList,w.heap.size≤q:=fun q hq=>by
          rcases List.mem_cons.1 hq with e | e
          · rw [e];exact HI4.out.lb
          · exact (HI4.out.lst.lt q (by simpa using e)).1
        have h2:=h1.trans (HM4.out.below o3 h1.size);exact h2.trans (HMM.out.below o4 h2.size)
      have hI6:=HI6.out;rw [← HTK.out] at hI6;exact ⟨⟨k+1,by omega,by go_num,⟨_,hI6⟩,hfin⟩,by simp [intOf];exact mea_step k1⟩
    · obtain rfl:k=nn:=by omega
      have nlt: ¬(k:Int)<(k:Int):=by omega
      obtain ⟨v5,hi5⟩:=HI.out;have HI5:=hidden hi5;have HLN:=hidden (HLen.out k);have HE:=HEnd.out;generalize (ps.take k).flatMap shPn=acc at HI5 HLN HE;clear hi5 HI HAt HLen HSZ HZ hk hlt
      go_wp2_with (go_at_call 252;refine (HKC.out _ _ _ _ _ HI5.out HB.out.size (by have:=HLN.out;omega)).mono ?_;rintro e w4 ⟨rfl,v4,i4,m4⟩;have HI4:=hidden i4;have HM4:=hidden m4;have c4:=i4.cell;clear i4 m4)
      have hfin:Kb w w4:=by
        have o3:∀q∈w.heap.size::v5.ownBlock.toList,w.heap.size≤q:=fun q hq=>by
          rcases List.mem_cons.1 hq with e | e
          · rw [e];exact HI5.out.lb
          · exact (HI5.out.lst.lt q (by simpa using e)).1
        exact HB.out.trans (HM4.out.below o3 HB.out.size)
      have hI4:=HI4.out;rw [HE] at hI4;exact HPost.out _ _ _ hI4 hfin
end Go.Proofs.YtdjpigfibafokaaGreatDoor

namespace Go.Proofs.YtdjpigfibafokaaGreatDoor
variable {S fr fr1 l:List Nat}
variable {b base bp g gs i j k m n o room:Nat}
variable {cs cs1:Lz}
variable {lv sv v v':Value}
variable {w w' w0 w1 w4 wa wr:World}
set_option maxHeartbeats 8000000
set_option maxRecDepth 20000
open Go.RowKit

theorem bholdAll_any (h:Hs w S w g gs room cs fr) (a:Option Addr) (n c:Nat) (ss:List Nat) (hI:Kq S w (fun w'=>Ints9 w' a ss)) (hn:n=ss.length) (h257:n≤200000) (hv:∀x∈ss,x=0∨0<cc cs (x-1)) (hc:0<n→∀i,cc cs i+n<1073741824):Kc 200 #[.pointer (some ⟨g,0,none⟩),.slice a n c] w fun e w'=>e=.returned (.slice none 0 0)∧Hs w S w' g gs room (holdM cs ss) fr:=by
  have HST:Hid (∀wr k,k<n→Hs w S wr g gs room (holdM cs (ss.take k)) fr→∃lb x,a=some ⟨lb,0,none⟩∧wr.cell? ⟨lb,k,none⟩=some (.int .i64 x)∧∃q:Int,¬q=4∧Kc 96 #[.pointer (some ⟨g,0,none⟩),.int .i64 x] wr fun e w'=>e=.returned (.int .i64 q)∧Hs w S w' g gs room (holdM cs (ss.take (k+1))) fr):=fun wr k hk hh=>by
    obtain ⟨lb,e1,e2⟩:=hh.kq hI k (by omega);refine ⟨lb,_,e1,e2,?_⟩;rw [holdM_take cs ss k (by omega)];have hm:=hm_ok h.2 k (ss.take k) (by rw [List.length_take];omega) (fun x hx=>hv x (List.mem_of_mem_take hx));have hmem:ss.getD k 0∈ss:=by rw [List.getD_eq_getElem?_getD,List.getElem?_eq_getElem (by omega)];exact List.getElem_mem _
    by_cases h0:ss.getD k 0=0
    · rw [if_pos h0,h0]
      exact ⟨7,by omega,hs_hold_bad hh 0 rfl⟩
    · rw [if_neg h0]
      have hcp:=(hv _ hmem).resolve_left h0;have hx:=hs_hold hh (ss.getD k 0-1) (by rw [hm.cc];omega) (by
        rw [hm.cc];have h1:=hc (by omega) (ss.getD k 0-1);have h2:=List.count_le_length (a:=ss.getD k 0-1+1) (l:=ss.take k);rw [List.length_take] at h2;omega)
      rw [show (((ss.getD k 0-1:Nat):Int)+1)=((ss.getD k 0:Nat):Int) by omega] at hx;exact ⟨0,by omega,hx⟩
  have HTK:Hid (ss.take n=ss):=List.take_of_length_le (by omega);have HH0:Hid (Hs w S w g gs room (holdM cs (ss.take 0)) fr):=h;have HM:=hidden h257;clear h hI hn h257 hv hc;go_enter Tryz.func200,Tryz.ntmps200
  go_wp2_with fail
  go_loopw [4,9] (fun lv iv wr=>∃(k:Nat),k≤n∧lv=.slice none 0 0∧iv=.int .i64 (k:Int)∧Hid (Hs w S wr g gs room (holdM cs (ss.take k)) fr)) (fun _ iv _=>n-(intOf iv).toNat)
  case atStart=>exact ⟨0,by omega,rfl,rfl,HH0.out⟩
  case round=>
    clear HH0;obtain ⟨k,hk,rfl,rfl,HH⟩:=hrel
    by_cases hlt:k<n
    · obtain ⟨lb,x,rfl,hcl,q,hq,hcall⟩:=HST.out wr k hlt HH.out
      have HC:=hidden hcall;have k0:(0:Int)≤(k:Int):=by omega
      have k1:(k:Int)<(n:Int):=by omega
      have hk257:k<200000:=by have:=HM.out;omega
      have hwk:wrap64 ((k:Int)+1)=((k+1:Nat):Int):=by rw [Go.IntWalk.wrap64_in _ (by omega)];rfl
      clear hcall hk
      go_wp2_with (first
        |(go_at_call 96;refine HC.out.mono ?_;rintro e w2 ⟨rfl,hs2⟩;have HS2:=hidden hs2;clear hs2))
      exact ⟨⟨k+1,by omega,rfl,by go_num,HS2.out⟩,by simp [intOf];exact mea_step k1⟩
    · obtain rfl:k=n:=by omega
      have nlt: ¬(k:Int)<(k:Int):=by omega
      rw [HTK.out] at HH
      go_wp2_with fail
      go_ret;exact ⟨rfl,HH.out⟩

theorem bholdAll_nil (v:Value) (w:World):Kc 200 #[v,.slice none 0 0] w fun e w'=>e=.returned (.slice none 0 0)∧w'=w:=by
  go_enter Tryz.func200,Tryz.ntmps200
  go_wp2_with fail
  go_loopw [4,9] (fun lv iv wr=>lv=.slice none 0 0∧iv=.int .i64 0∧wr=w) (fun _ _ _=>0)
  case atStart=>exact ⟨rfl,rfl,rfl⟩
  case round=>
    obtain ⟨rfl,rfl,rfl⟩:=hrel
    go_wp2_with fail
    go_ret;exact ⟨rfl,rfl⟩

theorem bcountable_any {ct:Int→Nat} {ca:Int→Ce} (V:Vw w v true ct ca) (hct:∀q,ct q<1073741824) (root:Int) (a:Option Addr) (n c:Nat) (l:List Nat) (h:Ints9 w a l) (e:n=l.length) (m:n≤200000):Kc 199 #[v,.int .i64 root,.slice a n c] w fun e w'=>e=.returned (.bool true)∧Kb w w':=by
  have HCT:Hid (∀w' (q:Int),Kb w w'→∃n:Int,n<1073741824∧Kc 72 #[v,.int .i64 q] w' fun e w''=>e=.returned (.int .i64 n)∧w''=w'):=fun w' q hb=>⟨(ct q:Int),by have:=hct q;omega,V.count w' q hb⟩
  have H1:Hid (∀w' k,Kb w w'→k<n→∃g,a=some ⟨g,0,none⟩∧∃x:Int,w'.cell? ⟨g,k,none⟩=some (.int .i64 x)):=fun w' k hb hk=>by
    obtain ⟨g,q1,q2⟩:=h.grow hb k (by omega);exact ⟨g,q1,_,q2⟩
  have HM:=hidden m;clear V hct h e m;go_enter Tryz.func199,Tryz.ntmps199
  go_wp2_with fail
  go_loopw [11] (fun iv wr=>∃(k:Nat),k≤n∧iv=.int .i64 (k:Int)∧Hid (Kb w wr)) (fun iv _=>n-(intOf iv).toNat)
  case atStart=>exact ⟨0,by omega,rfl,Below.refl _ _⟩
  case round=>
    obtain ⟨k,hk,rfl,hB⟩:=hrel
    by_cases hlt:k<n
    · obtain ⟨g,rfl,x,hc⟩:=H1.out wr k hB.out hlt
      obtain ⟨y,hy,HC⟩:=HCT.out wr x hB.out;have HC:=hidden HC;have k0:(0:Int)≤(k:Int):=by omega
      have k1:(k:Int)<(n:Int):=by omega
      have hk2:k<200000:=by have:=HM.out;omega
      have hwk:wrap64 ((k:Int)+1)=((k+1:Nat):Int):=by rw [Go.IntWalk.wrap64_in _ (by omega)];rfl
      have y1: ¬y=1073741824:=by omega
      have y2:(y == 1073741824)=false:=beq_eq_false_iff_ne.2 y1;clear hy hk
      go_wp2_with (go_at_call 72;refine HC.out.mono ?_;rintro e w' ⟨rfl,hx⟩;rw [hx];clear hx w')
      exact ⟨⟨k+1,by omega,by go_num,hB.out⟩,by simp [intOf];exact mea_step k1⟩
    · obtain rfl:k=n:=by omega
      have nlt: ¬(k:Int)<(k:Int):=by omega
      go_wp2_with fail
      go_ret;exact ⟨rfl,hB.out⟩

end Go.Proofs.YtdjpigfibafokaaGreatDoor

namespace Go.Proofs.YtdjpigfibafokaaGreatDoor
variable {S fr fr1 l:List Nat}
variable {b base bp g gs i j k m n o room:Nat}
variable {cs cs1:Lz}
variable {lv sv v v':Value}
variable {w w' w0 w1 w4 wa wr:World}
set_option maxHeartbeats 8000000
set_option maxRecDepth 20000
open Go.RowKit

theorem handle11_any {ms:List Nat} (h:IL m w b v ms) (p:Int) (hp: -p≤(ms.length:Int)) (h6:ms.length≤65536):Kc 254 #[.int .i64 p,.pointer (some ⟨b,0,none⟩)] w fun e w'=>e=.returned (.int .i64 (hdl ms p:Int))∧w'=w:=by
  have c0:=h.cell
  by_cases hn:p<0
  · obtain ⟨i,rfl⟩:∃i:Nat,p= -((i:Int)+1):=⟨(-p-1).toNat,by omega⟩
    have hi:i<ms.length:=by omega
    rw [hdl_neg];obtain ⟨gl,c,rfl,hcap⟩:=lst_pos (owR_lst h.lst) (by omega);have ck:w.cell? ⟨gl,i,none⟩=some (.int .i64 (ms.getD i 0:Int)):=by
      rw [lst_cell (owR_lst h.lst) i (by omega),nats,List.getElem?_map,List.getD_eq_getElem?_getD,List.getElem?_eq_getElem hi];rfl
    obtain ⟨nn,hnn⟩:∃q,q=ms.length:=⟨_,rfl⟩;rw [← hnn] at c0 hi h6;obtain ⟨z,hz⟩:∃z:Int,z= -((i:Int)+1):=⟨_,rfl⟩;obtain ⟨y,hy⟩:∃y:Int,y=(i:Int)+1:=⟨_,rfl⟩;have e1:wrap64 (-z)=y:=by rw [Go.IntWalk.wrap64_in _ (by omega)];omega
    have e2:wrap64 (y-1)=(i:Int):=by rw [Go.IntWalk.wrap64_in _ (by omega)];omega
    have i0:(0:Int)≤(i:Int):=by omega
    have i1:(i:Int)<(nn:Int):=by omega
    have z0:z<0:=by omega
    rw [← hz];generalize (ms.getD i 0:Int)=r at ck ⊢;clear h hp hn hnn hz hy h6 hcap;go_enter Tryz.func254,Tryz.ntmps254
    go_wp2_with fail
    go_ret;exact ⟨rfl,rfl⟩
  · have e:(hdl ms p:Int)=p:=by rw [hdl,if_neg hn];omega
    rw [e];clear h hp h6 e;go_enter Tryz.func254,Tryz.ntmps254
    go_wp2_with fail
    go_ret;exact ⟨rfl,rfl⟩

theorem Hs.apart (h:Hs w0 S w g gs room cs fr) (X:Nat→Prop) (hx:∀vp vf,Stm w g gs vp vf room cs fr→∀x,X x→x ∉ stB g gs vp vf cs) (hl:∀x,X x→x<w.heap.size):
    ∃S1,Hs w S1 w g gs room cs fr∧(∀x,X x→x ∉ S1)∧(∀P:World→Prop,Kq S w0 P→Kq S1 w P)∧∀w' cs' fr',Hs w S1 w' g gs room cs' fr'→Hs w0 S w' g gs room cs' fr'∧Mod S1 w w'∧∀vp vf,Stm w' g gs vp vf room cs' fr'→∀x,X x→x ∉ stB g gs vp vf cs':=by
  obtain ⟨⟨vp,vf,s,m,n⟩,W⟩:=h;refine ⟨stB g gs vp vf cs,Hs.here s W,hx vp vf s,fun P k=>k.turn m n,fun w' cs' fr' k=>?_⟩;obtain ⟨⟨vp',vf',s',m',n'⟩,W'⟩:=k;refine ⟨⟨⟨vp',vf',s',m.trans n m',n.trans m.size n'⟩,W'⟩,m',fun vp2 vf2 s2 x hX hq=>?_⟩;obtain rfl:vp2=vp':=Option.some.inj (s2.sl.c2.symm.trans s'.sl.c2);obtain rfl:vf2=vf':=Option.some.inj (s2.sl.c3.symm.trans s'.sl.c3);rcases n' x hq with e | e
  · exact hx vp vf s x hX e
  · have:=hl x hX
    omega

structure Mk5 (w wr:World) (S:List Nat) (g gs room:Nat) (cs:Lz) (fr:List Nat) (b5:Nat) (v:Value) (ms:List Nat) (bp:Nat) (lv:Value) (ps:List Pn):Prop where
  hs:Hs w S wr g gs room cs fr
  il:IL w.heap.size wr b5 v ms
  pr:PlR wr bp (.pointer (some ⟨g,0,none⟩)) ps lv
  ap:∀vp vf,Stm wr g gs vp vf room cs fr→∀x,(x=b5∨v.ownBlock=some x∨x=bp∨lv.ownBlock=some x)→x ∉ stB g gs vp vf cs

section
variable {w wr:World} {S:List Nat} {g gs room:Nat} {cs:Lz} {fr:List Nat} {b5:Nat} {v:Value} {ms:List Nat} {bp:Nat} {lv:Value} {ps:List Pn}
theorem Mk5.lt (h:Mk5 w wr S g gs room cs fr b5 v ms bp lv ps):∀x,(x=b5∨v.ownBlock=some x∨x=bp∨lv.ownBlock=some x)→x<wr.heap.size:=fun x hx=>by
  rcases hx with e | e | e | e
  · rw [e];exact h.il.blk.lt
  · exact (h.il.lst.lt x e).2
  · rw [e];exact h.pr.blk.lt
  · exact (h.pr.lst.lt x e).2
theorem Mk5.grow {w3:World} (h:Mk5 w wr S g gs room cs fr b5 v ms bp lv ps) (hb:Kb wr w3):Mk5 w w3 S g gs room cs fr b5 v ms bp lv ps:=by
  refine ⟨h.hs.grow hb,h.il.grow hb,h.pr.grow hb,fun vp vf s x hx hq=>?_⟩;obtain ⟨⟨vp',vf',s',_,_⟩,_⟩:=h.hs;have s2:=s'.grow hb;obtain rfl:vp=vp':=Option.some.inj (s.sl.c2.symm.trans s2.sl.c2);obtain rfl:vf=vf':=Option.some.inj (s.sl.c3.symm.trans s2.sl.c3);exact h.ap _ _ s' x hx hq
theorem Mk5.call {w3:World} (h:Mk5 w wr S g gs room cs fr b5 v ms bp lv ps) (hb:Kb wr w3) (b8:Nat) (h8:wr.heap.size≤b8) (l8:b8<w3.heap.size):
    ∃S1,Hs w3 S1 w3 g gs room cs fr∧(∀P:World→Prop,Kq S w P→Kq S1 w3 P)∧b8 ∉ S1∧∀w4 cs' fr',Hs w3 S1 w4 g gs room cs' fr'→Mk5 w w4 S g gs room cs' fr' b5 v ms bp lv ps∧Mod S1 w3 w4:=by
  have h3:=h.grow hb;obtain ⟨S1,k1,k2,k3,k4⟩:=h3.hs.apart (fun x=>(x=b5∨v.ownBlock=some x∨x=bp∨lv.ownBlock=some x)∨x=b8) (fun vp vf s x hx hq=>by
    rcases hx with hx | hx
    · exact h3.ap vp vf s x hx hq
    · subst hx
      obtain ⟨⟨vp',vf',s',_,_⟩,_⟩:=h.hs;have s2:=s'.grow hb;obtain rfl:vp=vp':=Option.some.inj (s.sl.c2.symm.trans s2.sl.c2);obtain rfl:vf=vf':=Option.some.inj (s.sl.c3.symm.trans s2.sl.c3);have:=s'.lts x hq;omega) (fun x hx=>by
    rcases hx with hx | hx
    · exact h3.lt x hx
    · rw [hx];exact l8)
  refine ⟨S1,k1,k3,k2 b8 (.inr rfl),fun w4 cs' fr' hh=>?_⟩;obtain ⟨q1,q2,q3⟩:=k4 w4 cs' fr' hh;exact ⟨⟨q1,h3.il.mod q2 (k2 _ (.inl (.inl rfl))) (fun x hx=>k2 x (.inl (.inr (.inl hx)))),h3.pr.mod q2 (k2 _ (.inl (.inr (.inr (.inl rfl))))) (fun x hx=>k2 x (.inl (.inr (.inr (.inr hx))))),fun vp vf s x hx=>q3 vp vf s x (.inl hx)⟩,q2⟩
theorem Mk5.push (h:Mk5 w wr S g gs room cs fr b5 v ms bp lv ps) (hne:bp≠b5) (hb:Kb wr w1) (hg:w1.grownBy w4 v.ownBlock) (x:Nat) (ho:w4.ownsRow w.heap.size 3 1 v' (ms.length+1) (nats ms++[Value.int .i64 (x:Int)])) (hw:WhereL w1 v v'):Mk5 w (w4.setCell ⟨b5,0,none⟩ v') S g gs room cs fr b5 v' (ms++[x]) bp lv ps∧w4.cell? ⟨b5,0,none⟩=some v∧w4.frozen? ⟨b5,0,none⟩=false:=by
  obtain ⟨q1,q2,q3,q4⟩:=h.il.snoc hb hg x ho;obtain ⟨⟨vp,vf,s,m,n⟩,W⟩:=h.hs;have hT:∀k∈b5::v.ownBlock.toList,k=b5∨v.ownBlock=some k:=fun k hk=>by
    rcases List.mem_cons.1 hk with e | e
    · exact .inl e
    · exact .inr (by simpa using e)
  have s6:Stm (w4.setCell ⟨b5,0,none⟩ v') g gs vp vf room cs fr:=s.mod q2 fun k hk hq=>h.ap vp vf s k ((hT k hq).elim .inl fun e=>.inr (.inl e)) hk
  have hnew:∀k∈b5::v.ownBlock.toList,w.heap.size≤k:=fun k hk=>by
    rcases hT k hk with e | e
    · rw [e];exact h.il.lb
    · exact (h.il.lst.lt k e).1
  refine ⟨⟨⟨⟨vp,vf,s6,m.trans (fun k hk=>.inr (hnew k hk)) q2,n⟩,W⟩,q1,h.pr.mod q2 (fun hq=>?_) (fun y hy hq=>?_),fun vp2 vf2 s2 y hy hq=>?_⟩,q3,q4⟩
  · rcases hT bp hq with e | e
    · exact hne e
    · exact lst_blk_ne (owR_lst h.il.lst) h.pr.blk (by decide) e
  · rcases hT y hq with e | e
    · subst e
      exact lst_blk_ne h.pr.lst h.il.blk (by decide) hy
    · exact lst_ne h.pr.lst (owR_lst h.il.lst) (by decide) y hy e
  · obtain rfl:vp2=vp:=Option.some.inj (s2.sl.c2.symm.trans s6.sl.c2)
    obtain rfl:vf2=vf:=Option.some.inj (s2.sl.c3.symm.trans s6.sl.c3);rcases hy with e | e | e | e
    · exact h.ap _ _ s y (.inl e) hq
    · rcases hw with e2 | ⟨k,e2,hk⟩
      · rw [e2] at e
        exact h.ap _ _ s y (.inr (.inl e)) hq
      · rw [e2] at e
        injection e with e;subst e;have h1:=s.lts k hq;have h2:=hb.size;omega
    · exact h.ap _ _ s y (.inr (.inr (.inl e))) hq
    · exact h.ap _ _ s y (.inr (.inr (.inr e))) hq
end

end Go.Proofs.YtdjpigfibafokaaGreatDoor

namespace Go.Proofs.YtdjpigfibafokaaGreatDoor
variable {S fr fr1 l:List Nat}
variable {b base bp g gs i j k m n o room:Nat}
variable {cs cs1:Lz}
variable {lv sv v v':Value}
variable {w w' w0 w1 w4 wa wr:World}
set_option maxHeartbeats 8000000
set_option maxRecDepth 20000
open Go.RowKit

theorem owR_of {e:TypeId} {xs:List Value} (h:Lst w e k v n xs) (hb:∀g,v.ownBlock=some g→base≤g):w.ownsRow base e k v n xs:=⟨h.1,h.2.imp id fun ⟨g,cap,cur,a1,_,a3⟩=>⟨g,cap,cur,a1,hb g (by rw [a1];rfl),a3⟩⟩

def LfS (bp g b8:Nat) (K:Lq) (va:Option Addr) (vn vc:Nat) (w:World):Prop:=w.cell? ⟨bp,0,none⟩=some (.pointer (some ⟨g,0,none⟩))∧w.rangeAt b8 1 (B K).toList∧w.cell? ⟨b8,34,none⟩=some (.slice va vn vc)
def InS (bp g b8:Nat) (dd pl pr:Int) (w:World):Prop:=w.cell? ⟨bp,0,none⟩=some (.pointer (some ⟨g,0,none⟩))∧w.cell? ⟨b8,35,none⟩=some (.int .i64 dd)∧w.cell? ⟨b8,36,none⟩=some (.int .i64 pl)∧w.cell? ⟨b8,37,none⟩=some (.int .i64 pr)

theorem lfS_of {b8:Nat} {n:Pn} {va:Option Addr} {vc:Nat} (hc:w.cell? ⟨bp,0,none⟩=some (.pointer (some ⟨g,0,none⟩))) (ok:WtOk n.w) (hv:n.w.v=.slice va n.w.b.length vc) (B8:Blk w b8 333 (encPl n).toArray):LfS bp g b8 n.w.k va n.w.b.length vc w:=by
  obtain ⟨_,q1,_⟩:=encPl_at (g:=b8) (o:=0) ok (by have:=B8.range;simpa using this);refine ⟨hc,encW_key q1,?_⟩;have:=encW_val q1 ok.hk.1;rw [hv] at this;simpa using this
theorem inS_of {b8:Nat} {n:Pn} (hc:w.cell? ⟨bp,0,none⟩=some (.pointer (some ⟨g,0,none⟩))) (ok:WtOk n.w) (B8:Blk w b8 333 (encPl n).toArray):InS bp g b8 (n.dp:Int) n.l n.r w:=by
  obtain ⟨_,_,q1,q2,q3⟩:=encPl_at (g:=b8) (o:=0) ok (by have:=B8.range;simpa using this);exact ⟨hc,by simpa using q1,by simpa using q2,by simpa using q3⟩

def MkN (w:World) (S:List Nat) (g gs room b5:Nat) (v:Value) (bp:Nat) (lv:Value) (ps:List Pn) (s0:Bst) (k:Nat) (ms:List Nat) (hh:Nat) (w4:World):Prop:=∃s2,Bz ps 0 s0 (k+1) s2∧s2.ms=ms++[hh]∧Mk5 w w4 S g gs room s2.cs s2.fr b5 v ms bp lv ps

theorem mk_leaf {b5:Nat} {ps:List Pn} {s0 s:Bst} (h:Mk5 w wr S g gs room s.cs s.fr b5 v s.ms bp lv ps) {w3:World} (hb:Kb wr w3) {b8:Nat} (h8:wr.heap.size≤b8) (l8:b8<w3.heap.size) {n:Pn} (B8:Blk w3 b8 333 (encPl n).toArray) (ok:WtOk n.w) {va:Option Addr} {vc:Nat} (hvv:n.w.v=.slice va n.w.b.length vc) (hin:n.inn=false) (hz:Bz ps 0 s0 k s) (hn:ps[k]?=some n) (hc:WtOk0 n.w∧n.w.g=false) (hr:noc s.cs<room) (hL:Kq S w Laid) (hv:Kq S w fun x=>Reads x n.w.v n.w.b):
    LfS bp g b8 n.w.k va n.w.b.length vc w3∧Kc 223 #[.pointer (some ⟨g,0,none⟩),.agg (B n.w.k),.slice va n.w.b.length vc] w3 fun e w4=>e=.returned (.tuple #[.int .i64 (tkH s.cs s.fr:Int),.int .i64 0])∧LfS bp g b8 n.w.k va n.w.b.length vc w4∧MkN w S g gs room b5 v bp lv ps s0 k s.ms (tkH s.cs s.fr) w4:=by
  obtain ⟨S1,k1,k2,k3,k4⟩:=h.call hb b8 h8 l8;refine ⟨lfS_of (h.pr.grow hb).cells.1 ok hvv B8,?_⟩;have c:=hs_leaf k1 n.w.k n.w.v n.w.b (k2 _ hv).now hc.1.1 (k2 _ hL).now (hc.1.2.2 hc.2) (k1.free hr);rw [hvv] at c;refine c.mono ?_;rintro e w4 ⟨v',rfl,okc,hs4⟩;obtain ⟨q1,q2⟩:=k4 _ _ _ hs4;exact ⟨rfl,lfS_of q1.pr.cells.1 ok hvv (B8.mod q2 k3),⟨_,s.fr.dropLast,_⟩,hz.step hn k1.frok hs4.2 ⟨rfl,rfl,.inl ⟨hin,v',okc,rfl⟩⟩,rfl,q1⟩

theorem mk_inner {b5:Nat} {ps:List Pn} {s0 s:Bst} (h:Mk5 w wr S g gs room s.cs s.fr b5 v s.ms bp lv ps) {w3:World} (hb:Kb wr w3) {b8:Nat} (h8:wr.heap.size≤b8) (l8:b8<w3.heap.size) {n:Pn} (B8:Blk w3 b8 333 (encPl n).toArray) (ok:WtOk n.w) (hin:n.inn=true) (hz:Bz ps 0 s0 k s) (hn:ps[k]?=some n) (hc:n.dp<256∧mayP s.cs (hdl s.ms n.l:Int)∧mayP s.cs (hdl s.ms n.r:Int)∧∃u,(u=true↔Und (sdC s.cs (hdl s.ms n.l)).key (sdC s.cs (hdl s.ms n.r)).key (n.dp:Int))∧fitP n.dp (sdC s.cs (hdl s.ms n.l)) (sdC s.cs (hdl s.ms n.r)) u=true) (hr:noc s.cs<room) (hL:Kq S w Laid):
    InS bp g b8 (n.dp:Int) n.l n.r w3∧Kc 225 #[.pointer (some ⟨g,0,none⟩),.int .i64 (n.dp:Int),.int .i64 (hdl s.ms n.l:Int),.int .i64 (hdl s.ms n.r:Int)] w3 fun e w4=>e=.returned (.tuple #[.int .i64 (tkH s.cs s.fr:Int),.int .i64 0])∧InS bp g b8 (n.dp:Int) n.l n.r w4∧MkN w S g gs room b5 v bp lv ps s0 k s.ms (tkH s.cs s.fr) w4:=by
  obtain ⟨S1,k1,k2,k3,k4⟩:=h.call hb b8 h8 l8;refine ⟨inS_of (h.pr.grow hb).cells.1 ok B8,?_⟩;obtain ⟨hd,m1,m2,u,hu,hf⟩:=hc;refine (hs_inner k1 n.dp (hdl s.ms n.l) (hdl s.ms n.r) hd m1 m2 u hu hf (k2 _ hL).now (k1.free hr)).mono ?_;rintro e w4 ⟨cs',hi,rfl,hs4⟩;obtain ⟨q1,q2⟩:=k4 _ _ _ hs4;exact ⟨rfl,inS_of q1.pr.cells.1 ok (B8.mod q2 k3),⟨cs',s.fr.dropLast,_⟩,hz.step hn k1.frok hs4.2 ⟨rfl,rfl,.inr ⟨hin,hi⟩⟩,rfl,q1⟩

theorem isG_parts {cs:Lz} {ps:List Pn}:∀ {G:Gt} {lo hi:Nat} {q:Int},IsG cs ps lo hi q G→ -q≤(hi:Int)∧∀j n,lo≤j→j<hi→ps[j]?=some n→n.inn=true→ -n.l≤(j:Int)∧ -n.r≤(j:Int)
  | .old h T,lo,hi,q,g=>by
    obtain ⟨rfl,rfl,_⟩:=g;exact ⟨by omega,fun j n h1 h2=>by omega⟩
  | .lf x,lo,hi,q,g=>by
    obtain ⟨rfl,rfl,hp⟩:=g;refine ⟨by omega,fun j n h1 h2 h3 h4=>?_⟩;obtain rfl:j=lo:=by omega
    rw [hp] at h3;injection h3 with h3;subst h3;cases h4
  | .nd d L R,lo,hi,q,g=>by
    obtain ⟨m,n,a,b,rfl,rfl,hp,gL,gR⟩:=g;have l1:=gL.le;have l2:=gR.le;obtain ⟨a1,a2⟩:=isG_parts gL;obtain ⟨b1,b2⟩:=isG_parts gR;refine ⟨by omega,fun j x h1 h2 h3 h4=>?_⟩
    by_cases j1:j<m
    · exact a2 j x h1 j1 h3 h4
    · by_cases j2:j<n
      · exact b2 j x (by omega) j2 h3 h4
      · obtain rfl:j=n:=by omega
        rw [hp] at h3;injection h3 with h3;subst h3;exact ⟨by show -a≤_;omega,by show -b≤_;omega⟩

theorem bz_mlen {ps:List Pn} {s0:Bst} {s1:Bst} (h:Bz ps i s0 j s1) (e:s0.ms.length=i):s1.ms.length=j:=by
  induction h with
  | refl=>exact e
  | step _ _ _ _ hb ih=>
    rw [hb.2.1,List.length_append,ih e];rfl

def BlPost (w:World) (S:List Nat) (g gs room:Nat) (ps:List Pn) (s0:Bst) (top:Int) (e:Ending) (w':World):Prop:=∃s,Bz ps 0 s0 ps.length s∧e=.returned (.int .i64 (hdl s.ms top:Int))∧Hs w S w' g gs room s.cs s.fr

theorem build_any (H:Hs w S w g gs room cs1 fr1) {bp:Nat} {lv:Value} {ps:List Pn} (P:PlR w bp (.pointer (some ⟨g,0,none⟩)) ps lv) (hap:∀vp vf,Stm w g gs vp vf room cs1 fr1→∀x,(x=bp∨lv.ownBlock=some x)→x ∉ stB g gs vp vf cs1) (hL:Kq S w Laid) (hv:∀n∈ps,n.inn=false→Kq S w fun x=>Reads x n.w.v n.w.b)
    (hC:∀j s1,j<ps.length→Bz ps 0 ⟨cs1,fr1,[]⟩ j s1→∃n,ps[j]?=some n∧Can s1 n∧noc s1.cs+0=noc cs1+j∧s1.ms.length=j) (hP:∀(j:Nat) n,j<ps.length→ps[j]?=some n→n.inn=true→ -n.l≤(j:Int)∧ -n.r≤(j:Int)) (hroom:noc cs1+ps.length≤room) (h6:ps.length≤65536) (top:Int) (ht: -top≤(ps.length:Int)):
    Kc 201 #[.pointer (some ⟨bp,0,none⟩),.int .i64 top] w (BlPost w S g gs room ps ⟨cs1,fr1,[]⟩ top):=by
  obtain ⟨la,lc,hlv⟩:=lst_slice P.lst;obtain ⟨nn,hnn⟩:∃q,q=ps.length:=⟨_,rfl⟩;have c1:=P.cells.2;rw [hlv] at c1;obtain ⟨s0,hs0⟩:∃s0,s0=Bst.mk cs1 fr1 []:=⟨_,rfl⟩;rw [← hs0] at hC ⊢;rw [← hnn] at c1 hC hP hroom h6 ht hlv;have HMK0:Hid (Mk5 w (w.alloc (.cells #[.slice none 0 0] 45)) S g gs room s0.cs s0.fr w.heap.size (.slice none 0 0) s0.ms bp lv ps):=by
    have hb:=grow_alloc w (.cells #[.slice none 0 0] 45);rw [hs0];refine ⟨H.grow hb,⟨Blk.new w _ _,World.ownsRow_nil _ _ _ _,Nat.le_refl _⟩,P.grow hb,fun vp vf s x hx hq=>?_⟩;obtain ⟨⟨vp',vf',s',_,_⟩,_⟩:=H;have s2:=s'.grow hb;obtain rfl:vp=vp':=Option.some.inj (s.sl.c2.symm.trans s2.sl.c2);obtain rfl:vf=vf':=Option.some.inj (s.sl.c3.symm.trans s2.sl.c3);rcases hx with hx | hx | hx
    · have:=s'.lts x hq
      omega
    · cases hx
    · exact hap _ _ s' x hx hq
  have HPost:Hid (∀s w',Bz ps 0 s0 nn s→Hs w S w' g gs room s.cs s.fr→BlPost w S g gs room ps s0 top (.returned (.int .i64 (hdl s.ms top:Int))) w'):=fun s w' h1 h2=>⟨s,by rw [← hnn];exact h1,rfl,h2⟩
  generalize BlPost w S g gs room ps s0 top=PP at HPost ⊢;have c1a:=below_cell (grow_alloc w (.cells #[.slice none 0 0] 45)) c1;have HP:=hidden P;have HV:=hidden hv;have HC:=hidden hC;have HPP:=hidden hP;have HL:=hidden hL;have HR:=hidden hroom;have HN:=hidden h6;have HT:=hidden ht;have HNN:=hidden hnn;have HS0:=hidden (show noc s0.cs=noc cs1 by rw [hs0]);have HZL:Hid (∀j s1,j≤nn→Bz ps 0 s0 j s1→s1.ms.length=j):=fun j s1 hj hz=>bz_mlen hz (by rw [hs0];rfl)
  clear H P hap hL hv hC hP hroom h6 ht hs0 c1;go_enter Tryz.func201,Tryz.ntmps201
  go_wp2_with fail
  have HI0:Hid (∃(s:Bst) (v5:Value),Bz ps 0 s0 0 s∧Mk5 w (w.alloc (.cells #[.slice none 0 0] 45)) S g gs room s.cs s.fr w.heap.size v5 s.ms bp lv ps):=⟨s0,_,.refl _ _,HMK0.out⟩;generalize hw1:w.alloc (.cells #[.slice none 0 0] 45)=w1 at *;clear hw1 HMK0
  go_loopw [16] (fun iv wr=>∃(k:Nat),k≤nn∧iv=.int .i64 (k:Int)∧Hid (∃(s:Bst) (v5:Value),Bz ps 0 s0 k s∧Mk5 w wr S g gs room s.cs s.fr w.heap.size v5 s.ms bp lv ps)) (fun iv _=>nn-(intOf iv).toNat)
  case atStart=>exact ⟨0,by omega,rfl,HI0.out⟩
  case round=>
    clear HI0;obtain ⟨k,hk,rfl,HI⟩:=hrel
    by_cases hlt:k<nn
    · obtain ⟨s,v5,hz,hm⟩:=HI.out
      obtain ⟨n,hn,hcan,hnoc,hml⟩:=HC.out k s hlt hz;have hmem:n∈ps:=List.mem_of_getElem? hn;obtain ⟨gl,lc',e1,hr⟩:=hm.pr.at (i:=k) (by rw [← hnn];exact hlt);rw [show ps[k]=n from (List.getElem?_eq_some_iff.1 hn).2] at hr;have e2:la=some ⟨gl,0,none⟩:=by
        have:=hlv.symm.trans e1;injection this
      subst e2;clear e1;have ok:WtOk n.w:=hm.pr.ok n hmem;have hroom:noc s.cs<room:=by
        have h1:=HR.out;have h2:=HS0.out;omega
      have HRG:=hidden hr;have k0:(0:Int)≤(k:Int):=by omega
      have k1:(k:Int)<(nn:Int):=by omega
      have hk6:k<65536:=by have:=HN.out;omega
      have hwk:wrap64 ((k:Int)+1)=((k+1:Nat):Int):=by rw [Go.IntWalk.wrap64_in _ (by omega)];rfl
      have H1C:Hid ((encPl n).toArray.all (·.oneCell')=true):=all_oneCell_toArray (encPl_one ok);have HSZn:Hid ((Tryz.prog.info? 333).map (·.size)=some (encPl n).length):=by show _=_;rw [encPl_len ok];exact size_pl
      have HSA:Hid ((Tryz.prog.info? 333).map (·.size)=some (encPl n).toArray.size):=by show _=_;rw [List.size_toArray];exact HSZn.out
      have HZn:Hid ((zPl 0 (encW wtZ) 0 0 0).toArray.size=(encPl n).toArray.size):=by show _=_;rw [List.size_toArray,List.size_toArray,zPl_len _ _ _ _ _ wtZ_ok.len,encPl_len ok]
      have HK0:Hid (∀(w':World) (b:Nat),Blk w' b 333 (encPl n).toArray→w'.cell? ⟨b,0,none⟩=some (.int .u8 (if n.inn then 2 else 1))):=fun w' b hb=>by
        have:=(encPl_at (g:=b) (o:=0) ok (by have:=hb.range;simpa using this)).1;simpa using this
      obtain ⟨hh,hhh⟩:∃x:Int,x=(tkH s.cs s.fr:Int):=⟨_,rfl⟩;obtain ⟨NX,hNX⟩:∃NX,NX=MkN w S g gs room w.heap.size v5 bp lv ps s0 k s.ms (tkH s.cs s.fr):=⟨_,rfl⟩;have HIL:Hid (∀w4,NX w4→IL w.heap.size w4 w.heap.size v5 s.ms):=fun w4 h4=>by
        rw [hNX] at h4;obtain ⟨_,_,_,q⟩:=h4;exact q.il
      have HFIN:Hid (∀w4 w5 v6,NX w4→Lst w5 3 1 v6 (s.ms.length+1) (nats s.ms++[Value.int .i64 hh])→(w4.alloc (.cells #[.int .i64 hh] 3)).grownBy w5 v5.ownBlock→WhereL (w4.alloc (.cells #[.int .i64 hh] 3)) v5 v6→w5.cell? ⟨w.heap.size,0,none⟩=some v5∧w5.frozen? ⟨w.heap.size,0,none⟩=false∧∃(s:Bst) (v5:Value),Bz ps 0 s0 (k+1) s∧Mk5 w (w5.setCell ⟨w.heap.size,0,none⟩ v6) S g gs room s.cs s.fr w.heap.size v5 s.ms bp lv ps):=fun w4 w5 v6 h4 hl hg hw=>by
        rw [hNX] at h4;obtain ⟨s2,z2,e2,m2⟩:=h4;have hb4:=grow_alloc w4 (.cells #[.int .i64 hh] 3);have hbase:∀x,v6.ownBlock=some x→w.heap.size≤x:=fun x hx=>by
          rcases hw with e | ⟨y,e,hy⟩
          · rw [e] at hx
            exact (m2.il.lst.lt x hx).1
          · rw [e] at hx
            injection hx with hx;have h1:=hb4.size;have h2:=m2.il.blk.lt;omega
        rw [hhh] at hl;obtain ⟨p1,p2,p3⟩:=m2.push (m2.pr.blk.ne m2.il.blk (by decide)) hb4 hg (tkH s.cs s.fr) (owR_of hl hbase) hw;exact ⟨p2,p3,s2,v6,z2,by rw [e2];exact p1⟩
      have HMS:Hid (s.ms.length=k):=hml;cases hin:n.inn with
      | false=>
        obtain ⟨va,vc,hvv⟩:=ok.hv;have HST:Hid (∀w3 b8,Kb wr w3→wr.heap.size≤b8→b8<w3.heap.size→Blk w3 b8 333 (encPl n).toArray→LfS bp g b8 n.w.k va n.w.b.length vc w3∧Kc 223 #[.pointer (some ⟨g,0,none⟩),.agg (B n.w.k),.slice va n.w.b.length vc] w3 fun e w4=>e=.returned (.tuple #[.int .i64 hh,.int .i64 0])∧LfS bp g b8 n.w.k va n.w.b.length vc w4∧NX w4):=fun w3 b8 q1 q2 q3 q4=>by
          rw [hNX,hhh];exact mk_leaf hm q1 q2 q3 q4 ok hvv hin hz hn (hcan.1 hin) hroom HL.out (HV.out n hmem hin)
        have HPL:Hid ((Tryz.prog.info? 63).map (·.size)=some (B n.w.k).toList.length):=by show _=_;rw [B_toList,List.length_map,ok.hk.1];exact size_path
        rw [hin] at HK0;generalize encPl n=X at HRG HSZn HZn H1C HSA HK0 HST;generalize n.w.k=K at HST HPL;generalize n.w.b.length=vn at HST;generalize s.ms=ms at HIL HFIN HMS;clear hz hm hn hcan hnoc hml hmem hr ok hroom hhh hNX HV HC HPP HL HR HS0 HI hk hvv hin
        go_wp2_with (first
          |((with_reducible refine at_ldd 19 18 ?_);refine wpList_ldw _ rfl _ _ rfl gl (k * 38) rfl X _ HRG.out Tryz.underlying333 rfl HSZn.out ?_)
          |((with_reducible refine at_ald 8 ?_);refine wpList_al _ rfl _ rfl _ zero_pl ?_;intro w2 b8 hg8 hl8 B8 q8;have HG8:=hidden hg8;have HL8:=hidden hl8;have HQ8:=hidden q8;clear hg8 hl8)
          |((with_reducible refine at_st 8 ?_);refine wpList_sto _ rfl _ _ _ rfl b8 _ X.toArray rfl rfl B8 HSA.out HZn.out H1C.out ?_;intro w3 B83 r3;have HB83:=hidden B83;have HQ3:=hidden (below_row HQ8.out r3 HG8.out);have c80:=HK0.out _ _ B83;clear B8 q8 B83 r3 HRG))
        have hb0:Kb w3 w3.drew:=below_drewN (Below.refl _ _) 1;have hst:=HST.out w3.drew b8 (grow_trans HQ3.out hb0) HG8.out (Nat.lt_of_lt_of_le HB83.out.lt hb0.size) (HB83.out.grow hb0);have HS:=hidden hst.1;have HLF:=hidden hst.2;clear hst HST c80;refine wp_region_held_drew (S:=LfS bp g b8 K va vn vc) (by kernel_rfl) (HS.out) (fun hHeld=>?_);refine tkp 0 (.pointer (some ⟨bp,0,none⟩)) hHeld ?_;simp only [Act.put,zq1,zq2,zq4,zq5,zq6];refine tkp 1 (.pointer (some ⟨bp,0,none⟩)) hHeld ?_;simp only [Act.put,zq1,zq2,zq3,zq4,zq5,zq6];refine tkp 2 (.pointer (some ⟨bp,0,none⟩)) hHeld ?_;simp only [Act.put,zq1,zq2,zq3,zq4,zq5,zq6];refine tkg 3 (.pointer (some ⟨g,0,none⟩)) rfl (Or.inl ⟨by rfl,fun w hS=>by (have q1:=hS.1;go_simp)⟩) hHeld ?_;simp only [Act.put,zq1,zq2,zq3,zq4,zq5,zq6];refine tkp 4 (.pointer (some ⟨b8,1,none⟩)) hHeld ?_;simp only [Act.put,zq1,zq2,zq3,zq4,zq5,zq6];refine tkp 5 (.pointer (some ⟨b8,1,none⟩)) hHeld ?_;simp only [Act.put,zq1,zq2,zq3,zq4,zq5,zq6];refine tkg 6 (.agg (B K)) rfl (yieldsIf_load_mid rfl 63 (.tmp 30) rfl b8 1 rfl (B K).toList _ (fun w hS=>hS.2.1) Tryz.underlying63 rfl HPL.out) hHeld ?_;simp only [Act.put,zq1,zq2,zq3,zq4,zq5,zq6];refine tkp 7 (.pointer (some ⟨b8,1,none⟩)) hHeld ?_;simp only [Act.put,zq1,zq2,zq3,zq4,zq5,zq6];refine tkp 8 (.pointer (some ⟨b8,34,none⟩)) hHeld ?_;simp only [Act.put,zq1,zq2,zq3,zq4,zq5,zq6];refine tkg 9 (.slice va vn vc) rfl (Or.inl ⟨by rfl,fun w hS=>by (have q1:=hS.2.2;go_simp)⟩) hHeld ?_;simp only [Act.put,zq1,zq2,zq3,zq4,zq5,zq6];refine wpAnyH_ready (rs:=[10]) (by kernel_rfl) (by simp) ?_;refine AllReadyH.cons rfl (fun KQ hK=>?_) AllReadyH.nil;go_simp;refine HLF.out.mono ?_;rintro e w4 ⟨rfl,hs4,nx4⟩;have HNX:=hidden nx4;clear nx4;refine hK.out _ _ (hs4) (fun hHeld=>?_);clear hK KQ;refine tkp 11 (.tuple #[.int .i64 hh,.int .i64 0]) hHeld ?_;simp only [Act.put,zq1,zq2,zq3,zq4,zq5,zq6];refine tkp 12 (.int .i64 hh) hHeld ?_;simp only [Act.put,zq1,zq2,zq3,zq4,zq5,zq6];refine tkp 13 (.int .i64 0) hHeld ?_;simp only [Act.put,zq1,zq2,zq3,zq4,zq5,zq6];refine tkp 14 (.int .i64 hh) hHeld ?_;simp only [Act.put,zq1,zq2,zq3,zq4,zq5,zq6];refine wpAnyH_done (by kernel_rfl) ?_ _;have c5:=(HIL.out _ HNX.out).cell;have HO:=hidden (owR_lst (owR_grow (HIL.out _ HNX.out).lst (grow_alloc w4 (.cells #[.int .i64 hh] 3))));have HF:=hidden (fun w5 v6=>HFIN.out w4 w5 v6 HNX.out);clear HFIN HIL HNX hHeld
        go_wp2_with (first
          |(at_builtin;refine wpList_appL _ rfl _ _ _ rfl 3 1 8 Tryz.underlying45 info_nat (by omega) _ ms.length (nats ms) rfl HO.out w4.heap.size [Value.int .i64 hh] rfl (Blk.new _ _ _) rfl (by intro u hu;simp at hu;subst hu;rfl) (by have:=HMS.out;simp only [maxLen];omega) (by have:=HMS.out;omega) ?_;intro v6 w5 l6 g6 h6;obtain ⟨f1,f2,f3⟩:=HF.out _ _ l6 g6 h6;have HF3:=hidden f3;obtain ⟨va6,vc6,rfl⟩:=lst_slice l6;clear l6 g6 h6 f3))
        exact ⟨⟨k+1,by omega,by go_num,HF3.out⟩,by simp [intOf];exact mea_step k1⟩
      | true=>
        have HST:Hid (∀w3 b8,Kb wr w3→wr.heap.size≤b8→b8<w3.heap.size→Blk w3 b8 333 (encPl n).toArray→(InS bp g b8 (n.dp:Int) n.l n.r w3∧Kc 225 #[.pointer (some ⟨g,0,none⟩),.int .i64 (n.dp:Int),.int .i64 (hdl s.ms n.l:Int),.int .i64 (hdl s.ms n.r:Int)] w3 fun e w4=>e=.returned (.tuple #[.int .i64 hh,.int .i64 0])∧InS bp g b8 (n.dp:Int) n.l n.r w4∧NX w4)∧(Kc 254 #[.int .i64 n.l,.pointer (some ⟨w.heap.size,0,none⟩)] w3 fun e w'=>e=.returned (.int .i64 (hdl s.ms n.l:Int))∧w'=w3)∧Kc 254 #[.int .i64 n.r,.pointer (some ⟨w.heap.size,0,none⟩)] w3 fun e w'=>e=.returned (.int .i64 (hdl s.ms n.r:Int))∧w'=w3):=fun w3 b8 q1 q2 q3 q4=>by
          obtain ⟨p1,p2⟩:=HPP.out k n hlt hn hin;rw [hNX,hhh];exact ⟨mk_inner hm q1 q2 q3 q4 ok hin hz hn (hcan.2 hin) hroom HL.out,handle11_any (hm.il.grow q1) n.l (by rw [hml];exact p1) (by omega),handle11_any (hm.il.grow q1) n.r (by rw [hml];exact p2) (by omega)⟩
        rw [hin] at HK0;generalize encPl n=X at HRG HSZn HZn H1C HSA HK0 HST;generalize (hdl s.ms n.l:Int)=hl at HST;generalize (hdl s.ms n.r:Int)=hr2 at HST;generalize (n.dp:Int)=dd at HST;generalize n.l=pl at HST;generalize n.r=pr at HST;generalize s.ms=ms at HIL HFIN HMS;clear hz hm hn hcan hnoc hml hmem hr ok hroom hhh hNX HV HC HPP HL HR HS0 HI hk hin
        go_wp2_with (first
          |((with_reducible refine at_ldd 19 18 ?_);refine wpList_ldw _ rfl _ _ rfl gl (k * 38) rfl X _ HRG.out Tryz.underlying333 rfl HSZn.out ?_)
          |((with_reducible refine at_ald 8 ?_);refine wpList_al _ rfl _ rfl _ zero_pl ?_;intro w2 b8 hg8 hl8 B8 q8;have HG8:=hidden hg8;have HL8:=hidden hl8;have HQ8:=hidden q8;clear hg8 hl8)
          |((with_reducible refine at_st 8 ?_);refine wpList_sto _ rfl _ _ _ rfl b8 _ X.toArray rfl rfl B8 HSA.out HZn.out H1C.out ?_;intro w3 B83 r3;have HB83:=hidden B83;have HQ3:=hidden (below_row HQ8.out r3 HG8.out);have c80:=HK0.out _ _ B83;clear B8 q8 B83 r3 HRG))
        have hb0:Kb w3 w3.drew:=below_drewN (Below.refl _ _) 1;have hst:=HST.out w3.drew b8 (grow_trans HQ3.out hb0) HG8.out (Nat.lt_of_lt_of_le HB83.out.lt hb0.size) (HB83.out.grow hb0);have HS:=hidden hst.1.1;have HIN:=hidden hst.1.2;have HHL:=hidden hst.2.1;have HHR:=hidden hst.2.2;clear hst HST c80;refine wp_region_held_drew (S:=InS bp g b8 dd pl pr) (by kernel_rfl) (HS.out) (fun hHeld=>?_);refine tkp 0 (.pointer (some ⟨bp,0,none⟩)) hHeld ?_;simp only [Act.put,zq1,zq2,zq4,zq5,zq6];refine tkp 1 (.pointer (some ⟨bp,0,none⟩)) hHeld ?_;simp only [Act.put,zq1,zq2,zq3,zq4,zq5,zq6];refine tkp 2 (.pointer (some ⟨bp,0,none⟩)) hHeld ?_;simp only [Act.put,zq1,zq2,zq3,zq4,zq5,zq6];refine tkg 3 (.pointer (some ⟨g,0,none⟩)) rfl (Or.inl ⟨by rfl,fun w hS=>by (have q1:=hS.1;go_simp)⟩) hHeld ?_;simp only [Act.put,zq1,zq2,zq3,zq4,zq5,zq6];refine tkp 4 (.pointer (some ⟨b8,35,none⟩)) hHeld ?_;simp only [Act.put,zq1,zq2,zq3,zq4,zq5,zq6];refine tkg 5 (.int .i64 dd) rfl (Or.inl ⟨by rfl,fun w hS=>by (have q1:=hS.2.1;go_simp)⟩) hHeld ?_;simp only [Act.put,zq1,zq2,zq3,zq4,zq5,zq6];refine tkp 6 (.func (.func 254) #[] #[.pointer (some ⟨w.heap.size,0,none⟩)]) hHeld ?_;simp only [Act.put,zq1,zq2,zq3,zq4,zq5,zq6];refine tkp 7 (.pointer (some ⟨b8,36,none⟩)) hHeld ?_;simp only [Act.put,zq1,zq2,zq3,zq4,zq5,zq6];refine tkg 8 (.int .i64 pl) rfl (Or.inl ⟨by rfl,fun w hS=>by (have q1:=hS.2.2.1;go_simp)⟩) hHeld ?_;simp only [Act.put,zq1,zq2,zq3,zq4,zq5,zq6];refine tkp 10 (.func (.func 254) #[] #[.pointer (some ⟨w.heap.size,0,none⟩)]) hHeld ?_;simp only [Act.put,zq1,zq2,zq3,zq4,zq5,zq6];refine tkp 11 (.pointer (some ⟨b8,37,none⟩)) hHeld ?_;simp only [Act.put,zq1,zq2,zq3,zq4,zq5,zq6];refine tkg 12 (.int .i64 pr) rfl (Or.inl ⟨by rfl,fun w hS=>by (have q1:=hS.2.2.2;go_simp)⟩) hHeld ?_;simp only [Act.put,zq1,zq2,zq3,zq4,zq5,zq6];refine wpAnyH_ready (rs:=[9]) (by kernel_rfl) (by simp) ?_;refine AllReadyH.cons rfl (fun KQ hK=>?_) AllReadyH.nil;go_simp;refine HHL.out.mono ?_;rintro e x1 ⟨rfl,hx⟩;rw [hx];clear hx x1;refine hK.out _ _ (HS.out) (fun hHeld=>?_);clear hK KQ;refine wpAnyH_ready (rs:=[13]) (by kernel_rfl) (by simp) ?_;refine AllReadyH.cons rfl (fun KQ hK=>?_) AllReadyH.nil;go_simp;refine HHR.out.mono ?_;rintro e x1 ⟨rfl,hx⟩;rw [hx];clear hx x1;refine hK.out _ _ (HS.out) (fun hHeld=>?_);clear hK KQ;refine wpAnyH_ready (rs:=[14]) (by kernel_rfl) (by simp) ?_;refine AllReadyH.cons rfl (fun KQ hK=>?_) AllReadyH.nil;go_simp;refine HIN.out.mono ?_;rintro e w4 ⟨rfl,hs4,nx4⟩;have HNX:=hidden nx4;clear nx4;refine hK.out _ _ (hs4) (fun hHeld=>?_);clear hK KQ;refine tkp 15 (.tuple #[.int .i64 hh,.int .i64 0]) hHeld ?_;simp only [Act.put,zq1,zq2,zq3,zq4,zq5,zq6];refine tkp 16 (.int .i64 hh) hHeld ?_;simp only [Act.put,zq1,zq2,zq3,zq4,zq5,zq6];refine tkp 17 (.int .i64 0) hHeld ?_;simp only [Act.put,zq1,zq2,zq3,zq4,zq5,zq6];refine tkp 18 (.int .i64 hh) hHeld ?_;simp only [Act.put,zq1,zq2,zq3,zq4,zq5,zq6];refine wpAnyH_done (by kernel_rfl) ?_ _;have c5:=(HIL.out _ HNX.out).cell;have HO:=hidden (owR_lst (owR_grow (HIL.out _ HNX.out).lst (grow_alloc w4 (.cells #[.int .i64 hh] 3))));have HF:=hidden (fun w5 v6=>HFIN.out w4 w5 v6 HNX.out);clear HFIN HIL HNX hHeld
        go_wp2_with (first
          |(at_builtin;refine wpList_appL _ rfl _ _ _ rfl 3 1 8 Tryz.underlying45 info_nat (by omega) _ ms.length (nats ms) rfl HO.out w4.heap.size [Value.int .i64 hh] rfl (Blk.new _ _ _) rfl (by intro u hu;simp at hu;subst hu;rfl) (by have:=HMS.out;simp only [maxLen];omega) (by have:=HMS.out;omega) ?_;intro v6 w5 l6 g6 h6;obtain ⟨f1,f2,f3⟩:=HF.out _ _ l6 g6 h6;have HF3:=hidden f3;obtain ⟨va6,vc6,rfl⟩:=lst_slice l6;clear l6 g6 h6 f3))
        exact ⟨⟨k+1,by omega,by go_num,HF3.out⟩,by simp [intOf];exact mea_step k1⟩
    · obtain rfl:k=nn:=by omega
      have nlt: ¬(k:Int)<(k:Int):=by omega
      obtain ⟨s,v5,hz,hm⟩:=HI.out;have hml:s.ms.length=k:=HZL.out k s (Nat.le_refl _) hz;have HHT:=hidden (handle11_any hm.il top (by rw [hml];exact HT.out) (by have:=HN.out;omega));have HE:=hidden (HPost.out s wr hz hm.hs);generalize (hdl s.ms top:Int)=y at HHT HE;clear hz hm hml HI HC HV HPP HL HR HS0 HZL hk hlt
      go_wp2_with (go_at_call 254;refine HHT.out.mono ?_;rintro e x1 ⟨rfl,hx⟩;rw [hx];clear hx x1)
      exact HE.out

end Go.Proofs.YtdjpigfibafokaaGreatDoor
